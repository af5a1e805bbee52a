package node_test

import (
	"bytes"
	"math"
	"math/rand"
	"slices"
	"testing"

	"tributary/api"
	"tributary/effect"
	"tributary/event"
	"tributary/node"
	"tributary/shown"
)

func of(number, seq int) api.Dot { return api.Dot{Node: number, Seq: seq} }

func span(number, from, to int) api.Span { return api.Span{Node: number, From: from, To: to} }

func file(b ...byte) api.Effect { return api.Effect{Kind: api.KindFile, Bytes: b} }

var (
	gone = api.Effect{Kind: api.KindGone}
	dir  = api.Effect{Kind: api.KindDir}
)

func make1(d api.Dot, at string, e api.Effect, behind ...api.Span) api.Event {
	return api.Event{Dot: d, Path: at, Effect: e, Past: behind}
}

func show(at string, e api.Effect, behind ...api.Span) api.Shown {
	return api.Shown{Path: at, Effect: e, Past: behind}
}

func own(e api.Event) api.Rec   { return api.Rec{Kind: api.RecOwn, Event: e} }
func other(e api.Event) api.Rec { return api.Rec{Kind: api.RecEvent, Event: e} }
func showing(at string, e api.Effect, behind ...api.Span) api.Rec {
	return api.Rec{Kind: api.RecShown, Shown: show(at, e, behind...)}
}
func peer(n int, known ...api.Span) api.Rec {
	return api.Rec{Kind: api.RecPeer, N: n, Known: known}
}
func learn(n int, d api.Dot) api.Rec { return api.Rec{Kind: api.RecLearn, N: n, Dot: d} }
func drop(n int) api.Rec             { return api.Rec{Kind: api.RecDrop, N: n} }
func epoch(n int) api.Rec            { return api.Rec{Kind: api.RecEpoch, N: n} }
func report(n int) api.Rec           { return api.Rec{Kind: api.RecReport, N: n} }

// a is the chapter's.
var a = make1(of(3, 1), "f", file(7))

func born(t *testing.T, number, kind int) api.Node {
	t.Helper()
	n, err := node.Born(number, kind)
	if err != api.OK {
		t.Fatal(err)
	}
	return n
}

// with tells the node that records make.
func with(t *testing.T, n api.Node, l ...api.Rec) api.Node {
	t.Helper()
	for _, r := range l {
		out, err := node.Apply(n, r)
		if err != api.OK || node.Check(out) != api.OK {
			t.Fatal(r, err)
		}
		n = out
	}
	return n
}

func sameEvents(x, y []api.Event) bool { return slices.EqualFunc(x, y, event.Same) }

func sameShown(x, y api.Shown) bool {
	return x.Path == y.Path && effect.Same(x.Effect, y.Effect) && slices.Equal(x.Past, y.Past)
}

func same(x, y api.Node) bool {
	return x.Number == y.Number && x.Kind == y.Kind && x.Seq == y.Seq && x.Epoch == y.Epoch && sameEvents(x.Store, y.Store) && slices.EqualFunc(x.Shown, y.Shown, sameShown) && slices.Equal(x.Reports, y.Reports) &&
		slices.EqualFunc(x.Peers, y.Peers, func(x, y api.Archive) bool { return x.Node == y.Node && slices.Equal(x.Known, y.Known) })
}

func sameRec(x, y api.Rec) bool {
	return x.Kind == y.Kind && x.N == y.N && event.Same(x.Event, y.Event) && sameShown(x.Shown, y.Shown) && x.Dot == y.Dot && slices.Equal(x.Known, y.Known)
}

// odd tells a past of so many spans, each of one dot of the node.
func odd(number, n int) []api.Span {
	var l []api.Span
	for i := range n {
		l = append(l, span(number, 2*i+1, 2*i+1))
	}
	return l
}

// P25.1, P25.2, P25.4: what may be, and what is told of what may not.
func TestCheck(t *testing.T) {
	laptop, root, gate := born(t, 3, api.KindLaptop), born(t, 1, api.KindRoot), born(t, 2, api.KindGateway)
	full := with(t, laptop, own(a), peer(5, span(1, 1, 1)), peer(1), epoch(7), other(make1(of(9, 1), "g", dir)))
	told := with(t, root, other(a), other(make1(of(4, 1), "f", dir)), report(9))
	for i, n := range []api.Node{laptop, root, gate, full, told, {Number: 200, Kind: 2, Seq: api.MaxSeq, Epoch: 1 << 40}} {
		if node.Check(n) != api.OK {
			t.Error(i)
		}
	}
	change := func(n api.Node, f func(n *api.Node)) api.Node {
		f(&n)
		return n
	}
	for i, n := range []api.Node{
		{}, {Number: 1}, {Kind: 1}, {Number: 201, Kind: 1}, {Number: 1, Kind: 4}, {Number: 1, Kind: -1}, {Number: -1, Kind: 1}, {Number: 1, Kind: 1, Seq: -1}, {Number: 1, Kind: 1, Seq: api.MaxSeq + 1}, {Number: 1, Kind: 1, Epoch: -1}, {Number: 1, Kind: 1, Epoch: 1<<40 + 1}, {Number: math.MaxInt, Kind: 1},
		change(full, func(n *api.Node) { n.Seq = 0 }),
		change(full, func(n *api.Node) { n.Kind = api.KindGateway }),
		change(full, func(n *api.Node) { n.Number = 5 }),
		change(full, func(n *api.Node) { n.Store = []api.Event{n.Store[1], n.Store[0]} }),
		change(full, func(n *api.Node) { n.Shown = []api.Shown{show("x/y", dir)} }),
		change(full, func(n *api.Node) { n.Peers = []api.Archive{n.Peers[1], n.Peers[0]} }),
		change(full, func(n *api.Node) { n.Peers = []api.Archive{n.Peers[1], n.Peers[1]} }),
		change(full, func(n *api.Node) { n.Peers = []api.Archive{{Node: 0}} }),
		change(full, func(n *api.Node) { n.Peers = []api.Archive{{Node: 5, Known: []api.Span{span(1, 2, 1)}}} }),
		change(full, func(n *api.Node) { n.Reports = told.Reports }),
		change(told, func(n *api.Node) { n.Kind = api.KindGateway }),
		change(told, func(n *api.Node) { n.Reports = append(slices.Clone(n.Reports), n.Reports...) }),
		change(gate, func(n *api.Node) { n.Shown = full.Shown }),
	} {
		got, e1 := node.Apply(n, epoch(1<<40))
		back, e2 := node.Replay(n, nil)
		if node.Check(n) != api.ErrArg || e1 != api.ErrArg || e2 != api.ErrArg || !same(got, api.Node{}) || !same(back, api.Node{}) {
			t.Error(i, e1, e2)
		}
	}
}

// P25.1: born, and an edge's archive.
func TestBornPeer(t *testing.T) {
	for _, x := range []struct {
		number, kind int
		err          api.Errno
	}{{1, 1, api.OK}, {200, 3, api.OK}, {2, 2, api.OK}, {0, 1, api.ErrArg}, {1, 4, api.ErrArg}, {201, 1, api.ErrArg}, {1, 0, api.ErrArg}, {math.MinInt, math.MaxInt, api.ErrArg}} {
		want := api.Node{Number: x.number, Kind: x.kind}
		if x.err != api.OK {
			want = api.Node{}
		}
		if n, err := node.Born(x.number, x.kind); err != x.err || !same(n, want) {
			t.Error(x, n, err)
		}
	}
	odd := api.Node{Peers: []api.Archive{{Node: 7, Known: []api.Span{span(1, 1, 1)}}, {Node: 5}, {Node: 7}}}
	if x, ok := node.Peer(odd, 7); !ok || x.Node != 7 || !slices.Equal(x.Known, odd.Peers[0].Known) {
		t.Error(x, ok)
	}
	if x, ok := node.Peer(odd, 6); ok || x.Node != 0 || len(x.Known) > 0 {
		t.Error(x, ok)
	}
}

// P25.2: what each kind of record makes of a node.
func TestApply(t *testing.T) {
	laptop, root, gate := born(t, 3, api.KindLaptop), born(t, 1, api.KindRoot), born(t, 2, api.KindGateway)
	d2 := make1(of(3, 2), "f", dir, span(3, 1, 1))
	mine := with(t, laptop, own(a))
	for i, x := range []struct {
		n    api.Node
		r    api.Rec
		want api.Node
	}{
		{laptop, own(a), api.Node{Number: 3, Kind: 3, Seq: 1, Store: []api.Event{a}, Shown: []api.Shown{show("f", file(7), span(3, 1, 1))}}},
		{mine, own(d2), api.Node{Number: 3, Kind: 3, Seq: 2, Store: []api.Event{d2}, Shown: []api.Shown{show("f", dir, span(3, 1, 2))}}},
		{root, own(make1(of(1, 1), "g/h", file())), api.Node{Number: 1, Kind: 1, Seq: 1, Store: []api.Event{make1(of(1, 1), "g/h", file())}}},
		{gate, own(make1(of(2, 1), "g", file())), api.Node{Number: 2, Kind: 2, Seq: 1, Store: []api.Event{make1(of(2, 1), "g", file())}}},
		{laptop, other(make1(of(1, 1), "g/h", file())), api.Node{Number: 3, Kind: 3, Store: []api.Event{make1(of(1, 1), "g/h", file())}}},
		{mine, other(make1(of(4, 1), "f", gone, span(3, 1, 1))), api.Node{Number: 3, Kind: 3, Seq: 1, Store: []api.Event{make1(of(4, 1), "f", gone, span(3, 1, 1))}, Shown: mine.Shown}},
		{mine, showing("g", dir, span(9, 1, 1)), api.Node{Number: 3, Kind: 3, Seq: 1, Store: mine.Store, Shown: []api.Shown{mine.Shown[0], show("g", dir, span(9, 1, 1))}}},
		{gate, peer(7, span(1, 1, 1)), api.Node{Number: 2, Kind: 2, Peers: []api.Archive{{Node: 7, Known: []api.Span{span(1, 1, 1)}}}}},
		{with(t, gate, peer(7, span(1, 1, 1)), peer(9)), peer(8), api.Node{Number: 2, Kind: 2, Peers: []api.Archive{{Node: 7, Known: []api.Span{span(1, 1, 1)}}, {Node: 8}, {Node: 9}}}},
		{with(t, gate, peer(7, span(1, 1, 1)), peer(9)), peer(7, span(2, 1, 1)), api.Node{Number: 2, Kind: 2, Peers: []api.Archive{{Node: 7, Known: []api.Span{span(2, 1, 1)}}, {Node: 9}}}},
		{with(t, gate, peer(7, span(1, 1, 1)), peer(9)), learn(9, of(1, 4)), api.Node{Number: 2, Kind: 2, Peers: []api.Archive{{Node: 7, Known: []api.Span{span(1, 1, 1)}}, {Node: 9, Known: []api.Span{span(1, 4, 4)}}}}},
		{with(t, gate, peer(7, span(1, 1, 1)), peer(9)), drop(7), api.Node{Number: 2, Kind: 2, Peers: []api.Archive{{Node: 9}}}},
		{gate, epoch(5), api.Node{Number: 2, Kind: 2, Epoch: 5}},
		{gate, epoch(1 << 40), api.Node{Number: 2, Kind: 2, Epoch: 1 << 40}},
		{with(t, root, other(a), other(make1(of(4, 1), "f", dir)), other(make1(of(5, 1), "f/g", dir))), report(1), api.Node{Number: 1, Kind: 1, Store: []api.Event{a, make1(of(4, 1), "f", dir), make1(of(5, 1), "f/g", dir)}, Reports: []api.Report{{Number: 1, Clash: api.Clash{A: of(3, 1), B: of(4, 1)}}}}},
		{root, report(0), root},
	} {
		if got, err := node.Apply(x.n, x.r); err != api.OK || !same(got, x.want) || node.Check(got) != api.OK {
			t.Error(i, got, err)
		}
	}
}

// P25.2: what each kind of record is refused for.
func TestRefused(t *testing.T) {
	laptop, root, gate := born(t, 3, api.KindLaptop), born(t, 1, api.KindRoot), born(t, 2, api.KindGateway)
	mine := with(t, laptop, own(a), epoch(4), peer(5), peer(6, odd(6, 4000)...))
	last := api.Node{Number: 3, Kind: 3, Seq: api.MaxSeq}
	for i, x := range []struct {
		n   api.Node
		r   api.Rec
		err api.Errno
	}{
		{mine, own(a), api.ErrArg}, {mine, own(make1(of(3, 3), "g", dir)), api.ErrArg}, {mine, own(make1(of(4, 2), "g", dir)), api.ErrArg}, {mine, own(make1(of(3, 2), "G", dir)), api.ErrArg}, {mine, own(make1(of(3, 2), "x/y", dir)), api.ErrKind}, {mine, own(make1(of(3, 2), "f/y", dir)), api.ErrKind},
		{mine, own(make1(of(3, 2), "g", dir, odd(7, 4000)...)), api.ErrFull}, {last, own(make1(of(3, api.MaxSeq+1), "g", dir)), api.ErrArg}, {last, own(make1(of(3, 1), "g", dir)), api.ErrArg},
		{root, own(make1(of(1, 1), "G", dir)), api.ErrArg}, {gate, own(make1(of(2, 1), "g", api.Effect{})), api.ErrArg}, {root, own(make1(of(1, 1), "g", dir, span(1, 1, 1))), api.ErrArg},
		{mine, other(a), api.ErrArg}, {mine, other(make1(of(3, 9), "g", dir)), api.ErrArg}, {mine, other(make1(of(4, 1), "G", dir)), api.ErrArg}, {with(t, mine, other(make1(of(4, 1), "g", dir))), other(make1(of(4, 1), "h", dir)), api.ErrExists},
		{root, showing("g", dir), api.ErrState}, {gate, showing("?", dir), api.ErrState}, {mine, showing("x/y", dir), api.ErrKind}, {mine, showing("X", dir), api.ErrArg}, {mine, showing("x", api.Effect{}), api.ErrArg},
		{mine, peer(0), api.ErrArg}, {mine, peer(201), api.ErrArg}, {mine, peer(3), api.ErrArg}, {mine, peer(5, span(1, 2, 1)), api.ErrArg}, {mine, peer(math.MaxInt), api.ErrArg},
		{mine, learn(7, of(1, 1)), api.ErrMissing}, {mine, learn(7, of(0, 0)), api.ErrMissing}, {mine, learn(5, of(0, 1)), api.ErrArg}, {mine, learn(6, of(1, 1)), api.ErrFull}, {laptop, learn(5, of(1, 1)), api.ErrMissing}, {mine, learn(math.MinInt, of(1, 1)), api.ErrMissing},
		{mine, drop(7), api.ErrMissing}, {mine, drop(3), api.ErrMissing}, {mine, drop(0), api.ErrMissing},
		{mine, epoch(4), api.ErrArg}, {mine, epoch(3), api.ErrArg}, {mine, epoch(1<<40 + 1), api.ErrArg}, {mine, epoch(-1), api.ErrArg}, {gate, epoch(0), api.ErrArg},
		{mine, report(9), api.ErrState}, {gate, report(-1), api.ErrState}, {root, report(-1), api.ErrArg}, {root, report(10001), api.ErrArg},
		{mine, api.Rec{}, api.ErrArg}, {mine, api.Rec{Kind: 9}, api.ErrArg}, {mine, api.Rec{Kind: -1}, api.ErrArg}, {mine, api.Rec{Kind: math.MaxInt}, api.ErrArg},
	} {
		if got, err := node.Apply(x.n, x.r); err != x.err || !same(got, api.Node{}) {
			t.Error(i, got, err)
		}
	}
	// just what is looked at counts
	if got, err := node.Apply(gate, api.Rec{Kind: api.RecEpoch, N: 1, Event: a, Dot: of(9, 9)}); err != api.OK || got.Epoch != 1 {
		t.Error(got, err)
	}
}

var recs = []api.Rec{
	own(a), other(make1(of(4, 9), "f/g", gone, span(1, 1, 3), span(4, 2, 2))), showing("f/g", file(1, 2), span(1, 1, 1)), showing("x", gone), peer(5), peer(200, span(1, 1, 1), span(2, 5, api.MaxSeq)), learn(5, of(1, 1)), learn(200, of(200, api.MaxSeq)), drop(1), drop(200), epoch(1), epoch(1 << 40), report(0), report(10000),
	other(make1(of(200, api.MaxSeq), "f", file(make([]byte, 1000)...), odd(7, 4000)...)), showing("f", dir, odd(7, 4000)...), peer(5, odd(7, 4000)...),
	peer(1), learn(1, of(1, 1)), showing("abcdefghijkl/abcdefghijkl/abcdefghijkl/abcdefghijkl/abcdefghijkl/abcdefghijkl", dir),
}

// P25.3: the bytes.
func TestPutRec(t *testing.T) {
	for i, x := range []struct {
		r    api.Rec
		want []byte
	}{
		{epoch(2), []byte{1, 7, 1, 2}}, {learn(5, of(1, 1)), []byte{1, 5, 1, 5, 1, 1, 1, 1}}, {drop(9), []byte{1, 6, 1, 9}}, {report(0), []byte{1, 8, 0}}, {peer(5), []byte{1, 4, 1, 5, 1, 2, 0, 0}}, {showing("x", gone), []byte{1, 3, 1, 1, 120, 1, 4, 1, 3, 0, 0, 1, 2, 0, 0}},
		{own(make1(of(1, 1), "f", file())), []byte{1, 1, 1, 17, 1, 1, 1, 1, 1, 1, 102, 1, 4, 1, 1, 0, 0, 1, 2, 0, 0}}, {other(make1(of(1, 1), "f", file())), []byte{1, 2, 1, 17, 1, 1, 1, 1, 1, 1, 102, 1, 4, 1, 1, 0, 0, 1, 2, 0, 0}},
	} {
		if b, err := node.PutRec(x.r); err != api.OK || !bytes.Equal(b, x.want) {
			t.Error(i, b, err)
		}
	}
	for i, r := range recs {
		b, err := node.PutRec(r)
		got, fault := node.GetRec(b)
		if err != api.OK || fault != (api.Fault{}) || !sameRec(r, got) {
			t.Error(i, err, fault)
		}
		kind := r.Kind
		for j, spoilt := range []func(r *api.Rec){
			func(r *api.Rec) { r.Kind = 9 }, func(r *api.Rec) { r.N = -1 }, func(r *api.Rec) { r.N = 1<<40 + 1 },
			func(r *api.Rec) { r.Event.Path = "F" }, func(r *api.Rec) { r.Shown.Path = "F" }, func(r *api.Rec) { r.Dot = of(0, 1) }, func(r *api.Rec) { r.Known = []api.Span{span(1, 2, 1)} },
			func(r *api.Rec) { r.Shown.Past = []api.Span{span(1, 2, 1)} }, func(r *api.Rec) { r.Shown.Effect.Kind = 9 }, func(r *api.Rec) { r.Event.Dot.Seq = -1 }, func(r *api.Rec) { r.Event.Past = []api.Span{span(0, 1, 1)} }, func(r *api.Rec) { r.Event.Effect.Mode = -1 },
		} {
			bad := r
			spoilt(&bad)
			if b, err := node.PutRec(bad); err != api.ErrArg || len(b) > 0 {
				t.Error(i, j, b, err)
			}
		}
		for _, add := range []struct {
			but []int
			f   func(r *api.Rec)
		}{
			{[]int{4, 5, 6, 7, 8}, func(r *api.Rec) { r.N = 1 }}, {[]int{1, 2}, func(r *api.Rec) { r.Event = a }}, {[]int{3}, func(r *api.Rec) { r.Shown = show("x", dir) }}, {[]int{5}, func(r *api.Rec) { r.Dot = of(1, 1) }}, {[]int{4}, func(r *api.Rec) { r.Known = []api.Span{span(1, 1, 1)} }},
			{[]int{1, 2}, func(r *api.Rec) { r.Event.Dot.Seq = 5 }}, {[]int{3}, func(r *api.Rec) { r.Shown.Effect.Mode = 5 }}, {[]int{3}, func(r *api.Rec) { r.Shown.Past = []api.Span{span(1, 1, 1)} }},
		} {
			more := r
			add.f(&more)
			if b, err := node.PutRec(more); !slices.Contains(add.but, kind) && (err != api.ErrArg || len(b) > 0) {
				t.Error(i, b, err)
			}
		}
	}
	for i, r := range []api.Rec{{}, peer(0), peer(201), learn(0, of(1, 1)), learn(201, of(1, 1)), drop(0), drop(201), epoch(0), report(10001), report(-1)} {
		if b, err := node.PutRec(r); err != api.ErrArg || len(b) > 0 {
			t.Error(i, b, err)
		}
	}
}

// P25.3: what is no record.
func TestGetRec(t *testing.T) {
	long := func(head []byte, n int) []byte {
		return append(append(head, 2, byte(n>>8), byte(n)), make([]byte, n)...)
	}
	text := append([]byte{1, 3, 1, 78}, bytes.Repeat([]byte{'a'}, 78)...)
	for i, x := range []struct {
		b   []byte
		err api.Errno
		at  int
	}{
		{nil, api.ErrBytes, 0}, {[]byte{0}, api.ErrRange, 0}, {[]byte{1, 9}, api.ErrRange, 0}, {[]byte{9}, api.ErrArg, 0}, {[]byte{1, 7, 0}, api.ErrRange, 2}, {[]byte{1, 7}, api.ErrBytes, 2}, {[]byte{1, 7, 6, 1, 0, 0, 0, 0, 1}, api.ErrRange, 2}, {[]byte{1, 7, 1, 2, 0}, api.ErrBytes, 4},
		{[]byte{1, 8, 2, 39, 17}, api.ErrRange, 2}, {[]byte{1, 6, 0}, api.ErrRange, 2}, {[]byte{1, 6, 1, 201}, api.ErrRange, 2}, {[]byte{1, 5, 1, 201}, api.ErrRange, 2}, {[]byte{1, 5, 1, 5, 0}, api.ErrRange, 4}, {[]byte{1, 5, 1, 5, 1, 201}, api.ErrRange, 4}, {[]byte{1, 5, 1, 5, 1, 1, 0}, api.ErrRange, 6}, {[]byte{1, 5, 1, 5, 1, 1, 4, 128, 0, 0, 0}, api.ErrRange, 6},
		{[]byte{1, 4, 0}, api.ErrRange, 2}, {[]byte{1, 4, 1, 5}, api.ErrBytes, 4}, {[]byte{1, 4, 1, 5, 1, 3, 0, 0}, api.ErrBytes, 8}, {[]byte{1, 4, 1, 5, 1, 3, 0, 0, 0}, api.ErrArg, 0}, {[]byte{1, 4, 1, 5, 0}, api.ErrArg, 0}, {[]byte{1, 4, 1, 5, 1, 2, 0, 0, 9}, api.ErrBytes, 8},
		{long([]byte{1, 4, 1, 5}, 50001), api.ErrLong, 4}, {long([]byte{1, 4, 1, 5}, 50000), api.ErrArg, 0}, {long([]byte{1, 1}, 50001), api.ErrLong, 2}, {long([]byte{1, 2}, 50000), api.ErrArg, 0}, {long([]byte{1, 3, 1, 1, 120}, 50001), api.ErrLong, 5}, {long([]byte{1, 3, 1, 1, 120, 1, 4, 1, 3, 0, 0}, 50001), api.ErrLong, 11}, {text, api.ErrLong, 2},
		{[]byte{1, 1, 0}, api.ErrArg, 0}, {[]byte{1, 1, 1, 1, 5}, api.ErrArg, 0}, {[]byte{1, 3, 1, 1, 88, 1, 4, 1, 3, 0, 0, 1, 2, 0, 0}, api.ErrArg, 0}, {[]byte{1, 3, 1, 1, 120, 1, 4, 1, 4, 0, 0, 1, 2, 0, 0}, api.ErrArg, 0}, {[]byte{1, 3, 1, 1, 120, 1, 4, 1, 3, 0, 0, 1, 3, 0, 0, 0}, api.ErrArg, 0},
	} {
		if r, fault := node.GetRec(x.b); fault != (api.Fault{Err: x.err, At: x.at}) || !sameRec(r, api.Rec{}) {
			t.Error(i, r, fault)
		}
	}
}

// P25.4: records, one behind the other.
func TestReplay(t *testing.T) {
	n := born(t, 3, api.KindLaptop)
	put := func(l ...api.Rec) [][]byte {
		var out [][]byte
		for _, r := range l {
			b, err := node.PutRec(r)
			if err != api.OK {
				t.Fatal(r)
			}
			out = append(out, b)
		}
		return out
	}
	for i, x := range []struct {
		l   [][]byte
		err api.Errno
	}{
		{nil, api.OK}, {put(own(a), epoch(2), peer(5), learn(5, of(3, 1)), drop(5)), api.OK}, {put(epoch(2), epoch(2)), api.ErrArg}, {put(epoch(2), drop(5), epoch(1)), api.ErrMissing}, {append(put(epoch(2)), []byte{1}), api.ErrArg}, {append([][]byte{nil}, put(drop(5))...), api.ErrArg}, {put(report(5)), api.ErrState}, {put(own(a), showing("f/g", dir)), api.ErrKind},
	} {
		got, err := node.Replay(n, x.l)
		if err != x.err || err != api.OK && !same(got, api.Node{}) {
			t.Error(i, got, err)
		}
	}
	got, err := node.Replay(n, put(own(a), epoch(2), peer(5), learn(5, of(3, 1))))
	if err != api.OK || !same(got, with(t, n, own(a), epoch(2), peer(5), learn(5, of(3, 1)))) {
		t.Error(got, err)
	}
}

// P25.5, P25.6: what is told may be; records, written and replayed, make the node that they made.
func TestWhatFollows(t *testing.T) {
	rnd := rand.New(rand.NewSource(1))
	done := map[int]int{}
	for range 150 {
		kind := 1 + rnd.Intn(3)
		n := born(t, 3, kind)
		var journal [][]byte
		for range 40 {
			at := []string{"d", "d/f", "e"}[rnd.Intn(3)]
			e := []api.Effect{dir, gone, file(byte(rnd.Intn(2)))}[rnd.Intn(3)]
			behind, _ := shown.Past(n.Shown, at)
			r := []api.Rec{
				own(make1(of(3, n.Seq+1), at, e, behind...)), other(make1(of(4+rnd.Intn(3), 1+rnd.Intn(9)), at, e)), showing(at, e, behind...), peer(4+rnd.Intn(3), behind...), learn(4+rnd.Intn(3), of(3, 1+rnd.Intn(5))), drop(4 + rnd.Intn(3)), epoch(n.Epoch + rnd.Intn(3)), report(rnd.Intn(20)),
			}[rnd.Intn(8)]
			got, err := node.Apply(n, r)
			if err != api.OK {
				if !same(got, api.Node{}) {
					t.Fatal(got, err)
				}
				continue
			}
			if node.Check(got) != api.OK {
				t.Fatal(n, r, got)
			}
			b, err := node.PutRec(r)
			back, fault := node.GetRec(b)
			if err != api.OK || fault != (api.Fault{}) || !sameRec(back, r) {
				t.Fatal(r, back, err, fault)
			}
			journal, n = append(journal, b), got
			done[r.Kind]++
		}
		if got, err := node.Replay(born(t, 3, kind), journal); err != api.OK || !same(got, n) {
			t.Fatal(got, n, err)
		}
	}
	for kind := api.RecOwn; kind <= api.RecReport; kind++ {
		if done[kind] < 50 {
			t.Error("too few:", done)
		}
	}
}

// What is told is new memory.
func TestMemory(t *testing.T) {
	e := make1(of(3, 1), "f", file(7), span(9, 1, 1))
	built := func() api.Node {
		return with(t, born(t, 3, api.KindLaptop), own(make1(of(3, 1), "f", file(7), span(9, 1, 1))), peer(5, span(1, 1, 1)))
	}
	n, was := with(t, born(t, 3, api.KindLaptop), own(e), peer(5, span(1, 1, 1))), built()
	copied := func() api.Node {
		out, _ := node.Replay(n, nil)
		return out
	}
	with(t, n, learn(5, of(1, 2)), peer(5), drop(5), showing("f", file(8)))
	if !same(n, was) {
		t.Error(n)
	}
	spoil := func(x api.Node) {
		x.Store[0].Effect.Bytes[0], x.Store[0].Past[0].To = 1, 5
		x.Shown[0].Effect.Bytes[0], x.Shown[0].Past[0].To = 2, 6
		x.Peers[0].Known[0].To = 9
		if x.Store[0].Effect.Bytes[0] != 1 || x.Store[0].Past[0].To != 5 {
			t.Error("two lists share")
		}
	}
	next, _ := node.Apply(n, epoch(1))
	spoil(next)
	spoil(copied())
	p, _ := node.Peer(n, 5)
	p.Known[0].To = 9
	if !same(n, was) || e.Effect.Bytes[0] != 7 || e.Past[0].To != 1 {
		t.Error(n)
	}
	known := []api.Span{span(1, 1, 1)}
	with(t, n, peer(6, known...)).Peers[1].Known[0].To = 9
	b, _ := node.PutRec(own(e))
	r, _ := node.GetRec(b)
	for i := range b {
		b[i] = 0
	}
	if known[0].To != 1 || !event.Same(r.Event, e) {
		t.Error(known, r)
	}
}
