package event_test

import (
	"bytes"
	"math"
	"math/rand"
	"slices"
	"strings"
	"testing"

	"tributary/api"
	"tributary/event"
	"tributary/past"
)

func of(node, seq int) api.Dot { return api.Dot{Node: node, Seq: seq} }

func span(node, from, to int) api.Span { return api.Span{Node: node, From: from, To: to} }

func file(b ...byte) api.Effect { return api.Effect{Kind: api.KindFile, Bytes: b} }

var gone = api.Effect{Kind: api.KindGone}

func make1(d api.Dot, at string, e api.Effect, behind ...api.Span) api.Event {
	return api.Event{Dot: d, Path: at, Effect: e, Past: behind}
}

// a and b are the chapter's.
var (
	a = make1(of(1, 1), "f", file())
	b = make1(of(2, 1), "f", gone, span(1, 1, 1))
)

// odd tells a past of so many spans, each of one dot of the node.
func odd(node, n int) []api.Span {
	var l []api.Span
	for i := range n {
		l = append(l, span(node, 2*i+1, 2*i+1))
	}
	return l
}

var longest = make1(of(200, api.MaxSeq), strings.Repeat("abcdefghijkl/", 5)+"abcdefghijkl", api.Effect{Kind: api.KindFile, Mode: 511, Bytes: make([]byte, 1000)}, odd(7, 4000)...)

var good = []api.Event{a, b, longest, make1(of(1, 9), "f", gone, span(1, 1, 8)), make1(of(1, 9), "f/g", file(1), span(1, 3, 8), span(2, 10, 10))}

var bad = []api.Event{
	{}, make1(of(0, 1), "f", file()), make1(of(1, 0), "f", file()), make1(of(201, 1), "f", file()), make1(of(1, math.MaxInt), "f", file()),
	make1(of(1, 1), "F", file()), make1(of(1, 1), "", file()), make1(of(1, 1), "f/", file()),
	make1(of(1, 1), "f", api.Effect{}), make1(of(1, 1), "f", api.Effect{Kind: api.KindGone, Mode: 1}), make1(of(1, 1), "f", file(make([]byte, 1001)...)),
	make1(of(1, 1), "f", file(), span(2, 2, 1)), make1(of(1, 1), "f", file(), span(2, 1, 1), span(2, 2, 2)), make1(of(1, 1), "f", file(), odd(2, 4001)...),
	make1(of(1, 1), "f", file(), span(1, 1, 1)), make1(of(1, 5), "f", file(), span(1, 1, 5)), make1(of(1, 5), "f", file(), span(1, 1, 1), span(1, 9, 9)), make1(of(2, 3), "f", file(), span(1, 1, 1), span(2, 1, 3)),
}

// P8.1, P8.2, P8.3: what may be, and what is told of what may not.
func TestCheck(t *testing.T) {
	for i, e := range good {
		raw, err := event.Bytes(e)
		if event.Check(e) != api.OK || err != api.OK || event.Size(e) != len(raw) || len(raw) == 0 || !event.Closed([]api.Event{e}) {
			t.Error(i, err)
		}
	}
	for i, e := range bad {
		raw, e1 := event.Bytes(e)
		l, e2 := event.Past([]api.Event{a, e})
		if event.Check(e) != api.ErrArg || e1 != api.ErrArg || e2 != api.ErrArg || len(raw)+len(l)+event.Size(e) > 0 {
			t.Error(i, e1, e2)
		}
		if event.Closed([]api.Event{e}) || event.Closed([]api.Event{a, e}) {
			t.Error(i, "closed")
		}
		follows := make1(of(9, 1), "f", file(), span(1, 1, 9))
		if event.Ahead(e, follows) || event.Ahead(a, e) || event.Ahead(e, e) {
			t.Error(i, "ahead")
		}
	}
}

// P8.1: which is ahead of which, and which are the same.
func TestAheadSame(t *testing.T) {
	c := make1(of(3, 1), "x", file(), span(1, 1, 1), span(2, 1, 1))
	for i, x := range []struct {
		a, b api.Event
		want bool
	}{{a, b, true}, {b, a, false}, {a, a, false}, {a, c, true}, {b, c, true}, {c, a, false}, {make1(of(1, 2), "f", file()), b, false}, {make1(of(2, 1), "other", file()), c, true}} {
		if event.Ahead(x.a, x.b) != x.want {
			t.Error(i)
		}
	}
	unlike := []api.Event{{}, a, b, c, make1(of(1, 2), "f", file()), make1(of(2, 1), "f", file()), make1(of(1, 1), "g", file()), make1(of(1, 1), "f", gone), make1(of(1, 1), "f", file(0)), make1(of(1, 1), "f", api.Effect{Kind: 1, Mode: 1}),
		make1(of(1, 1), "f", file(), span(2, 1, 1)), make1(of(1, 1), "f", file(), span(2, 1, 2)), make1(of(1, 1), "f", file(), span(2, 1, 1), span(2, 3, 3)), {Dot: of(-1, -1), Path: "?"}}
	for i, x := range unlike {
		for j, y := range unlike {
			if event.Same(x, y) != (i == j) {
				t.Error(i, j)
			}
		}
	}
	if !event.Same(api.Event{Past: []api.Span{}, Effect: api.Effect{Bytes: []byte{}}}, api.Event{}) {
		t.Error("nil and empty are the same")
	}
}

// P8.2: the bytes.
func TestBytes(t *testing.T) {
	raw, err := event.Bytes(a)
	if err != api.OK || !bytes.Equal(raw, []byte{1, 1, 1, 1, 1, 1, 102, 1, 4, 1, 1, 0, 0, 1, 2, 0, 0}) || event.Size(a) != 17 || event.Size(b) != 26 {
		t.Error(raw, err, event.Size(a), event.Size(b))
	}
	raw, _ = event.Bytes(b)
	if !bytes.Equal(raw, []byte{1, 2, 1, 1, 1, 1, 102, 1, 4, 1, 3, 0, 0, 1, 11, 0, 1, 1, 0, 0, 0, 1, 0, 0, 0, 1}) {
		t.Error(raw)
	}
}

// P8.2: what is not read.
func TestRead(t *testing.T) {
	head := []byte{1, 1, 1, 1}
	with := func(parts ...[]byte) []byte { return slices.Concat(append([][]byte{head}, parts...)...) }
	text := func(n int) []byte {
		return append([]byte{2, byte(n >> 8), byte(n)}, bytes.Repeat([]byte{'a'}, n)...)
	}
	short := []byte{1, 78}
	for i, x := range []struct {
		b   []byte
		err api.Errno
		at  int
	}{
		{nil, api.ErrBytes, 0},
		{[]byte{0}, api.ErrRange, 0},
		{[]byte{1, 201}, api.ErrRange, 0},
		{[]byte{9}, api.ErrArg, 0},
		{[]byte{1, 1, 0}, api.ErrRange, 2},
		{[]byte{1, 1, 4, 128, 0, 0, 0}, api.ErrRange, 2},
		{[]byte{1, 1, 1}, api.ErrBytes, 3},
		{with(short, bytes.Repeat([]byte{'a'}, 78)), api.ErrLong, 4},
		{with([]byte{1, 1}), api.ErrBytes, 6},
		{with([]byte{1, 1, 102}, text(1101)), api.ErrLong, 7},
		{with([]byte{1, 1, 102, 0}, text(40001)), api.ErrLong, 8},
		{with([]byte{1, 1, 102, 0}, text(40000)), api.ErrArg, 0},
		{with([]byte{1, 1, 102}, text(1100), []byte{0}), api.ErrArg, 0},
		{with([]byte{1, 77}, bytes.Repeat([]byte{'a'}, 77), []byte{0, 0}), api.ErrArg, 0},
		{with([]byte{1, 1, 102, 1, 4, 1, 1, 0, 0, 1, 2, 0, 0, 0}), api.ErrBytes, 17},
		{with([]byte{1, 1, 70, 1, 4, 1, 1, 0, 0, 1, 2, 0, 0}), api.ErrArg, 0},
		{with([]byte{0, 1, 4, 1, 1, 0, 0, 1, 2, 0, 0}), api.ErrArg, 0},
		{with([]byte{1, 1, 102, 0, 1, 2, 0, 0}), api.ErrArg, 0},
		{with([]byte{1, 1, 102, 1, 5, 1, 1, 0, 0, 0, 1, 2, 0, 0}), api.ErrArg, 0},
		{with([]byte{1, 1, 102, 1, 4, 1, 1, 0, 0, 0}), api.ErrArg, 0},
		{with([]byte{1, 1, 102, 1, 4, 1, 1, 0, 0, 1, 3, 0, 0, 0}), api.ErrArg, 0},
		{with([]byte{1, 1, 102, 1, 4, 1, 1, 0, 0, 1, 11, 0, 1, 1, 0, 0, 0, 1, 0, 0, 0, 1}), api.ErrArg, 0},
	} {
		if e, fault := event.Read(x.b); !event.Same(e, api.Event{}) || fault != (api.Fault{Err: x.err, At: x.at}) {
			t.Error(i, e, fault)
		}
	}
}

// P8.3: the past of an event of which all these are ahead.
func TestPast(t *testing.T) {
	for i, x := range []struct {
		l    []api.Event
		want []api.Span
	}{
		{nil, nil}, {[]api.Event{a}, []api.Span{span(1, 1, 1)}}, {[]api.Event{a, b}, []api.Span{span(1, 1, 1), span(2, 1, 1)}}, {[]api.Event{b}, []api.Span{span(1, 1, 1), span(2, 1, 1)}}, {[]api.Event{b, b, a}, []api.Span{span(1, 1, 1), span(2, 1, 1)}},
		{[]api.Event{make1(of(3, 5), "x", gone, span(3, 1, 4)), make1(of(3, 7), "x", gone, span(1, 2, 2))}, []api.Span{span(1, 2, 2), span(3, 1, 5), span(3, 7, 7)}},
	} {
		if l, err := event.Past(x.l); err != api.OK || !slices.Equal(l, x.want) {
			t.Error(i, l, err)
		}
	}
	full := make1(of(1, 1), "f", file(), odd(7, 3999)...)
	if l, err := event.Past([]api.Event{full}); err != api.OK || len(l) != 4000 {
		t.Error(len(l), err)
	}
	if l, err := event.Past([]api.Event{full, make1(of(2, 1), "f", file())}); err != api.ErrFull || len(l) > 0 {
		t.Error(len(l), err)
	}
	if l, err := event.Past([]api.Event{full, make1(of(2, 1), "f", file()), make1(of(1, 2), "f", file(), span(7, 1, 9000))}); err != api.OK || !slices.Equal(l, []api.Span{span(1, 1, 2), span(2, 1, 1), span(7, 1, 9000)}) {
		t.Error(len(l), err)
	}
	if l, err := event.Past([]api.Event{full, make1(of(2, 1), "f", file()), {}}); err != api.ErrArg || len(l) > 0 {
		t.Error(len(l), err)
	}
}

// P8.1: which are closed.
func TestClosed(t *testing.T) {
	c := make1(of(3, 1), "f", file(), span(2, 1, 1))
	whole := make1(of(3, 1), "f", file(), span(1, 1, 1), span(2, 1, 1))
	later := make1(of(3, 2), "f", file(), span(1, 1, 2), span(2, 1, 1), span(3, 1, 1))
	for i, x := range []struct {
		l    []api.Event
		want bool
	}{
		{nil, true}, {[]api.Event{a}, true}, {[]api.Event{a, b}, true}, {[]api.Event{b, a}, true}, {[]api.Event{a, a}, false}, {[]api.Event{a, make1(of(1, 1), "g", gone)}, false},
		{[]api.Event{a, b, c}, false}, {[]api.Event{c, b}, false}, {[]api.Event{a, c}, true}, {[]api.Event{whole, b, a}, true}, {[]api.Event{whole, b}, true}, {[]api.Event{later, whole, b, a}, true}, {[]api.Event{later, c, b, a}, false},
	} {
		was := slices.Clone(x.l)
		if event.Closed(x.l) != x.want || !slices.EqualFunc(was, x.l, event.Same) {
			t.Error(i)
		}
	}
}

// history makes events as users do who see some of what was made ahead.
func history(rnd *rand.Rand) []api.Event {
	var l []api.Event
	last := map[int]int{}
	for range rnd.Intn(10) {
		var seen []api.Event
		for _, e := range l {
			if rnd.Intn(2) == 0 {
				seen = append(seen, e)
			}
		}
		behind, _ := event.Past(seen)
		node := 1 + rnd.Intn(4)
		last[node] = max(last[node], past.Last(behind, node)) + 1
		l = append(l, make1(of(node, last[node]), "f", file(byte(len(l))), behind...))
	}
	return l
}

// P8.4: of closed events being ahead is an order; an event with the Past of closed ones is closed with them.
func TestWhatFollows(t *testing.T) {
	rnd := rand.New(rand.NewSource(1))
	for range 500 {
		l := history(rnd)
		if !event.Closed(l) {
			t.Fatal(l)
		}
		for _, x := range l {
			for _, y := range l {
				if event.Ahead(x, y) && event.Ahead(y, x) {
					t.Fatal(x, y)
				}
				for _, z := range l {
					if event.Ahead(x, y) && event.Ahead(y, z) && !event.Ahead(x, z) {
						t.Fatal(x, y, z)
					}
				}
			}
			raw, _ := event.Bytes(x)
			if e, fault := event.Read(raw); fault != (api.Fault{}) || !event.Same(e, x) {
				t.Fatal(x, e, fault)
			}
		}
	}
	for i, e := range good {
		raw, _ := event.Bytes(e)
		if back, fault := event.Read(raw); fault != (api.Fault{}) || !event.Same(e, back) {
			t.Error(i, fault)
		}
	}
}

// P8.4: what is read is told as its bytes.
func TestOneForm(t *testing.T) {
	rnd := rand.New(rand.NewSource(2))
	raw, _ := event.Bytes(b)
	read := 0
	for range 20000 {
		x := slices.Clone(raw)
		for range 1 + rnd.Intn(2) {
			x[rnd.Intn(len(x))] = byte(rnd.Intn(4))
		}
		if e, fault := event.Read(x); fault.Err == api.OK {
			read++
			if back, err := event.Bytes(e); err != api.OK || !bytes.Equal(back, x) {
				t.Fatal(x, e, back)
			}
		}
	}
	if read < 100 {
		t.Error("too few:", read)
	}
}

// What is told is new memory.
func TestNew(t *testing.T) {
	in := make1(of(5, 1), "f", file(7), append([]api.Span{span(1, 1, 1)}, span(9, 9, 9))[:1]...)
	l, _ := event.Past([]api.Event{in})
	l[0].To = 5
	_ = append(l, span(8, 8, 8))
	if in.Past[0].To != 1 || in.Past[:2][1] != span(9, 9, 9) {
		t.Error(in)
	}
}
