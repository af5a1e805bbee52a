package shelf_test

import (
	"math/rand"
	"slices"
	"testing"

	"tributary/api"
	"tributary/effect"
	"tributary/event"
	"tributary/past"
	"tributary/shelf"
)

func of(node, seq int) api.Dot { return api.Dot{Node: node, Seq: seq} }

func span(node, from, to int) api.Span { return api.Span{Node: node, From: from, To: to} }

func file(b ...byte) api.Effect { return api.Effect{Kind: api.KindFile, Bytes: b} }

var (
	gone = api.Effect{Kind: api.KindGone}
	dir  = api.Effect{Kind: api.KindDir}
)

func make1(d api.Dot, at string, e api.Effect, behind ...api.Span) api.Event {
	return api.Event{Dot: d, Path: at, Effect: e, Past: behind}
}

// a, b and c are the chapter's.
var (
	a = make1(of(1, 1), "f", file(5))
	b = make1(of(2, 1), "f", gone, span(1, 1, 1))
	c = make1(of(3, 1), "f", dir)
	g = make1(of(4, 1), "g", file(5))
)

func list(l ...api.Event) []api.Event { return l }

func same(x, y []api.Event) bool { return slices.EqualFunc(x, y, event.Same) }

var noShelves = [][]api.Event{list(a, b), list(b, a), list(c, a), list(a, a), list(a, g), list(api.Event{}), list(a, make1(of(5, 1), "f", api.Effect{})), list(a, make1(of(1, 1), "f", dir)), list(a, c, b), list(b, make1(of(9, 1), "f", dir, span(2, 1, 1)))}

// P9.1, P9.2, P9.3: what is a shelf, and what is told of what is none.
func TestCheck(t *testing.T) {
	for i, l := range [][]api.Event{nil, list(a), list(b), list(a, c), list(b, c), list(a, make1(of(1, 2), "f", gone), c)} {
		if shelf.Check(l) != api.OK {
			t.Error(i)
		}
	}
	for i, l := range noShelves {
		p, e1 := shelf.Put(l, make1(of(9, 9), "f", dir))
		j1, e2 := shelf.Join(l, nil)
		j2, e3 := shelf.Join(nil, l)
		behind, e4 := shelf.Past(l)
		for _, err := range []api.Errno{shelf.Check(l), e1, e2, e3, e4} {
			if err != api.ErrArg {
				t.Error(i, err)
			}
		}
		if len(p)+len(j1)+len(j2)+len(behind)+len(shelf.Effects(l)) > 0 || shelf.Alike(l) {
			t.Error(i)
		}
	}
}

// P9.1: put and joined.
func TestPutJoin(t *testing.T) {
	a2 := make1(of(1, 1), "f", dir)
	between := make1(of(2, 7), "f", file(1))
	both := make1(of(9, 1), "f", file(1), span(1, 1, 1), span(3, 1, 1))
	for i, x := range []struct {
		l    []api.Event
		e    api.Event
		want []api.Event
		err  api.Errno
	}{
		{nil, a, list(a), api.OK}, {list(a), b, list(b), api.OK}, {list(b), a, list(b), api.OK}, {list(a), c, list(a, c), api.OK}, {list(c), a, list(a, c), api.OK},
		{list(a), a, list(a), api.OK}, {list(a), a2, list(a), api.OK}, {list(a, c), between, list(a, between, c), api.OK}, {list(a, c), b, list(b, c), api.OK}, {list(a, c), both, list(both), api.OK}, {list(both), c, list(both), api.OK},
		{list(a, between, c), both, list(between, both), api.OK},
		{list(a), g, nil, api.ErrArg}, {list(a), api.Event{}, nil, api.ErrArg}, {nil, make1(of(1, 1), "f", api.Effect{}), nil, api.ErrArg},
	} {
		was := slices.Clone(x.l)
		l, err := shelf.Put(x.l, x.e)
		if err != x.err || !same(l, x.want) || !same(was, x.l) {
			t.Error(i, l, err)
		}
	}
	for i, x := range []struct {
		a, b, want []api.Event
		err        api.Errno
	}{
		{nil, nil, nil, api.OK}, {list(a), nil, list(a), api.OK}, {nil, list(a), list(a), api.OK}, {list(a), list(b), list(b), api.OK}, {list(b), list(a), list(b), api.OK}, {list(a, c), list(b), list(b, c), api.OK}, {list(b), list(a, c), list(b, c), api.OK},
		{list(a), list(g), nil, api.ErrArg}, {list(a), list(g, make1(of(5, 1), "g", dir)), nil, api.ErrArg}, {list(a), list(a2), list(a), api.OK}, {list(a2), list(a), list(a2), api.OK}, {list(c), list(both), list(both), api.OK},
	} {
		l, err := shelf.Join(x.a, x.b)
		if err != x.err || !same(l, x.want) {
			t.Error(i, l, err)
		}
	}
}

// P9.2: the unlike effects, in order.
func TestEffects(t *testing.T) {
	twin := make1(of(7, 1), "f", file(5))
	for i, x := range []struct {
		l     []api.Event
		want  []api.Effect
		alike bool
	}{
		{nil, nil, false}, {list(a), []api.Effect{file(5)}, true}, {list(a, c), []api.Effect{file(5), dir}, false}, {list(a, twin), []api.Effect{file(5)}, true}, {list(a, c, twin), []api.Effect{file(5), dir}, false},
		{list(make1(of(1, 1), "f", gone), make1(of(2, 1), "f", dir), make1(of(3, 1), "f", file(2)), make1(of(4, 1), "f", file(1))), []api.Effect{file(1), file(2), dir, gone}, false},
		{list(make1(of(1, 1), "f", dir), make1(of(2, 1), "f", api.Effect{Kind: api.KindDir, Mode: 1})), []api.Effect{dir, {Kind: api.KindDir, Mode: 1}}, false},
	} {
		if got := shelf.Effects(x.l); !slices.EqualFunc(got, x.want, effect.Same) || shelf.Alike(x.l) != x.alike {
			t.Error(i, got)
		}
	}
}

// P9.3: the past.
func TestPast(t *testing.T) {
	for i, x := range []struct {
		l    []api.Event
		want []api.Span
	}{{nil, nil}, {list(a), []api.Span{span(1, 1, 1)}}, {list(b), []api.Span{span(1, 1, 1), span(2, 1, 1)}}, {list(b, c), []api.Span{span(1, 1, 1), span(2, 1, 1), span(3, 1, 1)}}} {
		if l, err := shelf.Past(x.l); err != api.OK || !slices.Equal(l, x.want) {
			t.Error(i, l, err)
		}
	}
	var odd []api.Span
	for i := range 4000 {
		odd = append(odd, span(9, 2*i+1, 2*i+1))
	}
	if l, err := shelf.Past(list(make1(of(1, 1), "f", dir, odd...))); err != api.ErrFull || len(l) > 0 {
		t.Error(len(l), err)
	}
}

// history makes closed events of one path, as users do who see some of what was made ahead.
func history(rnd *rand.Rand) []api.Event {
	var l []api.Event
	last := map[int]int{}
	for range rnd.Intn(9) {
		var seen []api.Event
		for _, e := range l {
			if rnd.Intn(2) == 0 {
				seen = append(seen, e)
			}
		}
		behind, _ := event.Past(seen)
		node := 1 + rnd.Intn(4)
		last[node] = max(last[node], past.Last(behind, node)) + 1
		l = append(l, make1(of(node, last[node]), "f", file(byte(rnd.Intn(3))), behind...))
	}
	return l
}

// P9.4: in any order, any number of times, closed events lead to those that none follows.
func TestWhatFollows(t *testing.T) {
	rnd := rand.New(rand.NewSource(1))
	put := func(l []api.Event, from []api.Event) []api.Event {
		for _, e := range from {
			out, err := shelf.Put(l, e)
			if err != api.OK || shelf.Check(out) != api.OK {
				t.Fatal(l, e, err)
			}
			l = out
		}
		return l
	}
	for range 500 {
		h := history(rnd)
		var want []api.Event
		for _, e := range h {
			if !slices.ContainsFunc(h, func(x api.Event) bool { return event.Ahead(e, x) }) {
				want = append(want, e)
			}
		}
		slices.SortFunc(want, func(x, y api.Event) int { return x.Dot.Node*1000 + x.Dot.Seq - y.Dot.Node*1000 - y.Dot.Seq })
		again := slices.Clone(h)
		for range rnd.Intn(4) {
			if len(h) > 0 {
				again = append(again, h[rnd.Intn(len(h))])
			}
		}
		rnd.Shuffle(len(again), func(i, j int) { again[i], again[j] = again[j], again[i] })
		if got := put(nil, again); !same(got, want) {
			t.Fatal(h, got, want)
		}
		n := rnd.Intn(len(again) + 1)
		x, y := put(nil, again[:n]), put(nil, again[n:])
		for range 2 {
			if j, err := shelf.Join(x, y); err != api.OK || !same(j, want) {
				t.Fatal(x, y, j, want)
			}
			x, y = y, x
		}
	}
}

// What is told is new memory.
func TestNew(t *testing.T) {
	mine := make1(of(2, 1), "f", file(7), span(9, 1, 1))
	in := append(list(a, mine), g)[:2]
	l1, _ := shelf.Put(in, c)
	l2, _ := shelf.Put(in, mine)
	l3, _ := shelf.Join(in, nil)
	l4, _ := shelf.Join(nil, in)
	for _, l := range [][]api.Event{l1, l2, l3, l4} {
		l[1].Effect.Bytes[0], l[1].Past[0].To = 9, 9
		_ = append(l, c, c)
	}
	shelf.Effects(in)[0].Bytes[0] = 9
	if mine.Effect.Bytes[0] != 7 || mine.Past[0].To != 1 || a.Effect.Bytes[0] != 5 || !event.Same(in[:3][2], g) {
		t.Error(in)
	}
	x := make1(of(5, 1), "f", file(7), span(9, 1, 1))
	l5, _ := shelf.Put(nil, x)
	l5[0].Effect.Bytes[0], l5[0].Past[0].To = 9, 9
	if x.Effect.Bytes[0] != 7 || x.Past[0].To != 1 {
		t.Error(x)
	}
}
