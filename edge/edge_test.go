package edge_test

import (
	"bytes"
	"math"
	"math/rand"
	"slices"
	"testing"

	"tributary/api"
	"tributary/edge"
	"tributary/event"
	"tributary/past"
	"tributary/path"
	"tributary/store"
)

func of(node, seq int) api.Dot { return api.Dot{Node: node, Seq: seq} }

func span(node, from, to int) api.Span { return api.Span{Node: node, From: from, To: to} }

func make1(d api.Dot, at string, behind ...api.Span) api.Event {
	return api.Event{Dot: d, Path: at, Effect: api.Effect{Kind: api.KindFile, Bytes: []byte{7}}, Past: behind}
}

// a and b are the chapter's; s is the store of both.
var (
	a = make1(of(2, 1), "f")
	b = make1(of(1, 1), "g")
	s = []api.Event{a, b}
)

func archive(node int, known ...api.Span) api.Archive {
	return api.Archive{Node: node, Known: known}
}

func same(x, y []api.Event) bool { return slices.EqualFunc(x, y, event.Same) }

func alike(x, y api.Archive) bool { return x.Node == y.Node && slices.Equal(x.Known, y.Known) }

// odd tells a past of so many spans, each of one dot of the node.
func odd(node, n int) []api.Span {
	var l []api.Span
	for i := range n {
		l = append(l, span(node, 2*i+1, 2*i+1))
	}
	return l
}

// P20.1, P20.2, P20.3: what may be, and what is told of what may not.
func TestCheck(t *testing.T) {
	for i, x := range []api.Archive{archive(1), archive(200), archive(3, span(1, 1, 1)), archive(3, odd(3, 4000)...)} {
		raw, err := edge.Bytes(x)
		got, fault := edge.Read(raw)
		if edge.Check(x) != api.OK || err != api.OK || fault != (api.Fault{}) || !alike(got, x) {
			t.Error(i, err, fault)
		}
	}
	for i, x := range []api.Archive{{}, archive(-1), archive(201), archive(math.MaxInt), archive(3, span(1, 2, 1)), archive(3, span(0, 1, 1)), archive(3, odd(3, 4001)...), archive(0, span(1, 1, 1))} {
		raw, e1 := edge.Bytes(x)
		l, e2 := edge.Learn(x, of(9, 9))
		r, e3 := edge.Reset(x, 3, nil)
		for _, err := range []api.Errno{edge.Check(x), e1, e2, e3} {
			if err != api.ErrArg {
				t.Error(i, err)
			}
		}
		next, ok := edge.Next(s, x, nil)
		if len(raw)+len(edge.Plan(s, x)) > 0 || !alike(l, api.Archive{}) || !alike(r, api.Archive{}) || ok || !event.Same(next, api.Event{}) || edge.Agreed(nil, x) {
			t.Error(i)
		}
	}
}

// P20.1: made, learned, reset.
func TestChanged(t *testing.T) {
	for node, err := range map[int]api.Errno{1: api.OK, 200: api.OK, 0: api.ErrArg, 201: api.ErrArg, -5: api.ErrArg} {
		if x, e := edge.New(node); e != err || err == api.OK && !alike(x, archive(node)) || err != api.OK && !alike(x, api.Archive{}) {
			t.Error(node, x, e)
		}
	}
	for i, x := range []struct {
		a    api.Archive
		d    api.Dot
		want api.Archive
		err  api.Errno
	}{
		{archive(3), of(1, 1), archive(3, span(1, 1, 1)), api.OK}, {archive(3, span(1, 1, 1)), of(1, 2), archive(3, span(1, 1, 2)), api.OK}, {archive(3, span(1, 1, 1)), of(1, 1), archive(3, span(1, 1, 1)), api.OK},
		{archive(3), of(0, 1), api.Archive{}, api.ErrArg}, {archive(3), of(1, 0), api.Archive{}, api.ErrArg}, {archive(3, odd(3, 4000)...), of(4, 1), api.Archive{}, api.ErrFull}, {archive(3, odd(3, 4000)...), of(0, 1), api.Archive{}, api.ErrArg}, {archive(3, odd(3, 4000)...), of(3, 1), archive(3, odd(3, 4000)...), api.OK},
	} {
		if got, err := edge.Learn(x.a, x.d); err != x.err || !alike(got, x.want) {
			t.Error(i, got, err)
		}
	}
	old := archive(3, span(2, 1, 5))
	for i, x := range []struct {
		node  int
		known []api.Span
		err   api.Errno
	}{{4, []api.Span{span(1, 1, 1)}, api.OK}, {3, nil, api.OK}, {0, nil, api.ErrArg}, {201, nil, api.ErrArg}, {4, []api.Span{span(1, 2, 1)}, api.ErrArg}} {
		want := archive(x.node, x.known...)
		if x.err != api.OK {
			want = api.Archive{}
		}
		if got, err := edge.Reset(old, x.node, x.known); err != x.err || !alike(got, want) {
			t.Error(i, got, err)
		}
	}
}

// P20.2: what is planned.
func TestPlan(t *testing.T) {
	c := make1(of(1, 2), "a")
	three := []api.Event{c, a, b}
	for i, x := range []struct {
		s      []api.Event
		a      api.Archive
		but    []api.Dot
		plan   []api.Event
		next   api.Event
		ok     bool
		agreed bool
	}{
		{s, archive(3), nil, []api.Event{b, a}, b, true, false},
		{s, archive(3), []api.Dot{of(1, 1)}, []api.Event{b, a}, a, true, false},
		{s, archive(3), []api.Dot{of(2, 1), of(1, 1)}, []api.Event{b, a}, api.Event{}, false, false},
		{s, archive(3, span(1, 1, 1)), nil, []api.Event{a}, a, true, false},
		{s, archive(3, span(1, 1, 1)), []api.Dot{of(9, 9), {}}, []api.Event{a}, a, true, false},
		{s, archive(3, span(1, 1, 1), span(2, 1, 1)), nil, nil, api.Event{}, false, true},
		{nil, archive(3), nil, nil, api.Event{}, false, true},
		{three, archive(3), []api.Dot{of(1, 1)}, []api.Event{b, c, a}, c, true, false},
		{three, archive(3), []api.Dot{of(1, 2)}, []api.Event{b, c, a}, b, true, false},
		{[]api.Event{b, a}, archive(3), nil, nil, api.Event{}, false, false},
		{[]api.Event{b, a}, archive(3, span(1, 1, 1), span(2, 1, 1)), nil, nil, api.Event{}, false, false},
	} {
		next, ok := edge.Next(x.s, x.a, x.but)
		if got := edge.Plan(x.s, x.a); !same(got, x.plan) || ok != x.ok || !event.Same(next, x.next) || edge.Agreed(x.s, x.a) != x.agreed {
			t.Error(i, got, next, ok)
		}
	}
}

// P20.3: the bytes, and what is none.
func TestBytes(t *testing.T) {
	if raw, err := edge.Bytes(archive(3)); err != api.OK || !bytes.Equal(raw, []byte{1, 3, 1, 2, 0, 0}) {
		t.Error(raw, err)
	}
	if raw, err := edge.Bytes(archive(200, span(1, 2, 3))); err != api.OK || !bytes.Equal(raw, []byte{1, 200, 1, 11, 0, 1, 1, 0, 0, 0, 2, 0, 0, 0, 3}) {
		t.Error(raw, err)
	}
	long := append([]byte{1, 3, 2, 156, 65}, make([]byte, 40001)...)
	longest := append([]byte{1, 3, 2, 156, 64}, make([]byte, 40000)...)
	for i, x := range []struct {
		b   []byte
		err api.Errno
		at  int
	}{
		{nil, api.ErrBytes, 0}, {[]byte{0, 1, 2, 0, 0}, api.ErrRange, 0}, {[]byte{1, 201, 1, 2, 0, 0}, api.ErrRange, 0}, {[]byte{1, 3}, api.ErrBytes, 2}, {[]byte{1, 3, 1, 2, 0}, api.ErrBytes, 5}, {[]byte{1, 3, 1, 2, 0, 0, 0}, api.ErrBytes, 6}, {long, api.ErrLong, 2}, {longest, api.ErrArg, 0},
		{[]byte{1, 3, 0}, api.ErrArg, 0}, {[]byte{1, 3, 1, 3, 0, 0, 0}, api.ErrArg, 0}, {[]byte{1, 3, 1, 11, 0, 1, 1, 0, 0, 0, 3, 0, 0, 0, 2}, api.ErrArg, 0},
	} {
		if got, fault := edge.Read(x.b); fault != (api.Fault{Err: x.err, At: x.at}) || !alike(got, api.Archive{}) {
			t.Error(i, got, fault)
		}
	}
}

// history makes closed events, as users do who see some of what was made ahead.
func history(rnd *rand.Rand) []api.Event {
	var l []api.Event
	last := map[int]int{}
	for range rnd.Intn(12) {
		var seen []api.Event
		at := []string{"f", "f/g", "g"}[rnd.Intn(3)]
		for _, e := range l {
			if path.Near(e.Path, at) && rnd.Intn(2) == 0 {
				seen = append(seen, e)
			}
		}
		behind, _ := event.Past(seen)
		node := 1 + rnd.Intn(4)
		last[node] = max(last[node], past.Last(behind, node)) + 1
		l = append(l, make1(of(node, last[node]), at, behind...))
	}
	return l
}

// P20.4: all that was planned, put and learned, makes it agreed, and the other end's store that of both.
func TestWhatFollows(t *testing.T) {
	rnd := rand.New(rand.NewSource(1))
	sent := 0
	for range 500 {
		var mine, other []api.Event
		for _, e := range history(rnd) {
			if n := rnd.Intn(3); n > 0 {
				mine, _ = store.Put(mine, e)
			} else {
				other, _ = store.Put(other, e)
			}
		}
		want, _ := store.Join(mine, other)
		x, _ := edge.New(3)
		for {
			e, ok := edge.Next(mine, x, nil)
			if !ok {
				break
			}
			other, _ = store.Put(other, e)
			x, _ = edge.Learn(x, e.Dot)
			sent++
			if slices.ContainsFunc(edge.Plan(mine, x), func(o api.Event) bool { return o.Dot == e.Dot }) {
				t.Fatal(e)
			}
		}
		if !edge.Agreed(mine, x) || !same(other, want) {
			t.Fatal(mine, other, want)
		}
	}
	if sent < 500 {
		t.Error("too few:", sent)
	}
}

// What is told is new memory.
func TestMemory(t *testing.T) {
	known := append([]api.Span{span(1, 1, 1)}, span(9, 9, 9))[:1]
	x, _ := edge.Reset(archive(3), 4, known)
	x.Known[0].To = 5
	_ = append(x.Known, span(8, 8, 8))
	y, _ := edge.Learn(archive(3, known...), of(1, 1))
	y.Known[0].To = 5
	e := make1(of(5, 1), "f", span(1, 1, 1))
	plan := edge.Plan([]api.Event{e}, archive(3))
	next, _ := edge.Next([]api.Event{e}, archive(3), nil)
	plan[0].Effect.Bytes[0], plan[0].Past[0].To, next.Effect.Bytes[0], next.Past[0].To = 1, 9, 1, 9
	if known[0].To != 1 || known[:2][1] != span(9, 9, 9) || e.Effect.Bytes[0] != 7 || e.Past[0].To != 1 {
		t.Error(known[:2], e)
	}
}
