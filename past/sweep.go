package past

import "tributary/api"

// cursor is a place in a past: what is left of the span there, and the spans behind it.
type cursor struct {
	head api.Span
	rest []api.Span
}

// nowhere is behind all spans.
const nowhere = api.MaxNodes + 1

func begin(l []api.Span) cursor {
	c := cursor{rest: l}
	c.next()
	return c
}

func (c *cursor) next() {
	if len(c.rest) == 0 {
		c.head = api.Span{Node: nowhere}
		return
	}
	c.head, c.rest = c.rest[0], c.rest[1:]
}

// pass goes behind a number of the span there.
func (c *cursor) pass(to int) {
	if c.head.To > to {
		c.head.From = to + 1
		return
	}
	c.next()
}

// sweep goes through two pasts at a time, and keeps what a func says yes to.
type sweep struct {
	a, b cursor
	keep func(inA, inB bool) bool
}

func over(a, b []api.Span, keep func(inA, inB bool) bool) *sweep {
	return &sweep{a: begin(a), b: begin(b), keep: keep}
}

// step tells the next dots that are all in the same ones of both pasts, and in which; it goes behind them.
func (s *sweep) step() (out api.Span, inA, inB bool) {
	x, y := s.a.head, s.b.head
	inA = x.Node < y.Node || x.Node == y.Node && x.From <= y.From
	inB = y.Node < x.Node || x.Node == y.Node && y.From <= x.From
	switch {
	case inA && inB:
		out = api.Span{Node: x.Node, From: x.From, To: min(x.To, y.To)}
	case inA:
		out = until(x, y)
	default:
		out = until(y, x)
	}
	if inA {
		s.a.pass(out.To)
	}
	if inB {
		s.b.pass(out.To)
	}
	return out, inA, inB
}

// until tells what of a span is ahead of the next one of the other past.
func until(s, next api.Span) api.Span {
	if s.Node == next.Node {
		s.To = min(s.To, next.From-1)
	}
	return s
}

// kept hands on what is kept, till that is enough.
func (s *sweep) kept(yield func(api.Span) bool) {
	for s.a.head.Node != nowhere || s.b.head.Node != nowhere {
		if out, inA, inB := s.step(); s.keep(inA, inB) && !yield(out) {
			return
		}
	}
}

// merged tells the past of all that is kept.
func (s *sweep) merged() ([]api.Span, api.Errno) {
	var out []api.Span
	for x := range s.kept {
		out = push(out, x)
	}
	return bounded(out)
}

func may(a, b []api.Span) bool { return Check(a) == api.OK && Check(b) == api.OK }

func either(inA, inB bool) bool { return inA || inB }

func justFirst(inA, inB bool) bool { return inA && !inB }

// Join tells the dots of either past.
func Join(a, b []api.Span) ([]api.Span, api.Errno) {
	if !may(a, b) {
		return nil, api.ErrArg
	}
	return over(a, b, either).merged()
}

// Minus tells the dots of the first past that the second one has not.
func Minus(a, b []api.Span) ([]api.Span, api.Errno) {
	if !may(a, b) {
		return nil, api.ErrArg
	}
	return over(a, b, justFirst).merged()
}

// Within tells whether each dot of the first past is one of the second one.
func Within(a, b []api.Span) bool {
	if !may(a, b) {
		return false
	}
	for range over(a, b, justFirst).kept {
		return false
	}
	return true
}

// Add tells a past with another dot.
func Add(l []api.Span, d api.Dot) ([]api.Span, api.Errno) {
	return Join(l, []api.Span{alone(d)})
}
