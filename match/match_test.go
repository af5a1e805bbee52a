package match_test

import (
	"slices"
	"testing"

	"tributary/api"
	"tributary/effect"
	"tributary/event"
	"tributary/match"
	"tributary/model"
	"tributary/node"
)

func of(number, seq int) api.Dot { return api.Dot{Node: number, Seq: seq} }

func span(number, from, to int) api.Span { return api.Span{Node: number, From: from, To: to} }

func file(b ...byte) api.Effect { return api.Effect{Kind: api.KindFile, Bytes: b} }

var dir = api.Effect{Kind: api.KindDir}

func make1(d api.Dot, at string, e api.Effect, behind ...api.Span) api.Event {
	return api.Event{Dot: d, Path: at, Effect: e, Past: behind}
}

func own(e api.Event) api.Rec   { return api.Rec{Kind: api.RecOwn, Event: e} }
func other(e api.Event) api.Rec { return api.Rec{Kind: api.RecEvent, Event: e} }

func born(t *testing.T, number, kind int) api.Node {
	t.Helper()
	n, err := node.Born(number, kind)
	if err != api.OK {
		t.Fatal(err)
	}
	return n
}

// with tells the node that records make.
func with(t *testing.T, n api.Node, l ...api.Rec) api.Node {
	t.Helper()
	for _, r := range l {
		out, err := node.Apply(n, r)
		if err != api.OK {
			t.Fatal(r, err)
		}
		n = out
	}
	return n
}

func enrolled(t *testing.T, s api.Shadow, kinds ...int) api.Shadow {
	t.Helper()
	for _, kind := range kinds {
		out, err := match.Enrol(s, kind)
		if err != api.OK || match.Check(out) != api.OK {
			t.Fatal(kind, err)
		}
		s = out
	}
	return s
}

// followed tells a shadow that followed nodes, by so many moves in all.
func followed(t *testing.T, s api.Shadow, moves int, l ...api.Node) api.Shadow {
	t.Helper()
	for _, n := range l {
		out, some, err := match.Follow(s, n)
		if err != api.OK || match.Check(out) != api.OK {
			t.Fatal(n, err)
		}
		s, moves = out, moves-some
	}
	if moves != 0 {
		t.Error(moves)
	}
	return s
}

func sameMoves(x, y []api.Move) bool {
	return slices.EqualFunc(x, y, func(x, y api.Move) bool {
		return x.Kind == y.Kind && x.Node == y.Node && x.N == y.N && x.Dot == y.Dot && x.Path == y.Path && effect.Same(x.Effect, y.Effect)
	})
}

func isNone(s api.Shadow) bool { return model.Same(s.Model, api.Model{}) && len(s.Nodes) == 0 }

// n is the laptop 2 as it is born, a the event 2.1 at f, m the laptop with it.
var a = make1(of(2, 1), "f", file(7))

// P30.1: the moves from a node to what it keeps now.
func TestBetween(t *testing.T) {
	n, root, gate := born(t, 2, api.KindLaptop), born(t, 1, api.KindRoot), born(t, 3, api.KindGateway)
	m := with(t, n, own(a))
	x, y := make1(of(4, 1), "x", dir), make1(of(5, 1), "a", dir)
	over := make1(of(4, 2), "x", file(), span(4, 1, 1))
	clashing := with(t, root, other(a), other(make1(of(4, 1), "f", dir)))
	change := api.Move{Kind: api.MoveChange, Node: 2, Path: "f", Effect: file(7)}
	for i, c := range []struct {
		was, now api.Node
		want     []api.Move
		err      api.Errno
	}{
		{n, m, []api.Move{change}, api.OK},
		{n, n, nil, api.OK},
		{m, m, nil, api.OK},
		{m, with(t, m, api.Rec{Kind: api.RecEpoch, N: 5}, api.Rec{Kind: api.RecPeer, N: 9}), nil, api.OK},
		{m, n, nil, api.ErrState},
		{n, with(t, m, own(make1(of(2, 2), "g", dir))), nil, api.ErrState},
		{n, born(t, 3, api.KindLaptop), nil, api.ErrArg},
		{n, born(t, 2, api.KindGateway), nil, api.ErrArg},
		{api.Node{}, n, nil, api.ErrArg},
		{n, api.Node{}, nil, api.ErrArg},
		{api.Node{Number: 2, Kind: api.KindLaptop, Epoch: -1}, n, nil, api.ErrArg},
		{n, api.Node{Number: 2, Kind: api.KindLaptop, Epoch: -1}, nil, api.ErrArg},
		{n, with(t, n, other(x), other(y)), []api.Move{{Kind: api.MoveLearn, Node: 2, Dot: of(5, 1)}, {Kind: api.MoveLearn, Node: 2, Dot: of(4, 1)}}, api.OK},
		{with(t, n, other(x), other(y)), with(t, n, other(over), other(y)), []api.Move{{Kind: api.MoveLearn, Node: 2, Dot: of(4, 2)}}, api.OK},
		{with(t, n, other(x)), n, nil, api.OK},
		{n, with(t, n, other(x), own(a)), []api.Move{change, {Kind: api.MoveLearn, Node: 2, Dot: of(4, 1)}}, api.OK},
		{n, with(t, n, api.Rec{Kind: api.RecShown, Shown: api.Shown{Path: "x", Effect: dir}}), []api.Move{{Kind: api.MoveShow, Node: 2}}, api.OK},
		{n, with(t, m, api.Rec{Kind: api.RecShown, Shown: api.Shown{Path: "x", Effect: dir}}), []api.Move{change}, api.OK},
		{with(t, m, api.Rec{Kind: api.RecShown, Shown: api.Shown{Path: "x", Effect: file(1)}}), with(t, m, api.Rec{Kind: api.RecShown, Shown: api.Shown{Path: "x", Effect: file(2)}}), []api.Move{{Kind: api.MoveShow, Node: 2}}, api.OK},
		{with(t, m, api.Rec{Kind: api.RecShown, Shown: api.Shown{Path: "x", Effect: dir}}), with(t, m, api.Rec{Kind: api.RecShown, Shown: api.Shown{Path: "x", Effect: dir, Past: []api.Span{span(9, 1, 1)}}}), []api.Move{{Kind: api.MoveShow, Node: 2}}, api.OK},
		{root, with(t, root, own(make1(of(1, 1), "g", dir))), []api.Move{{Kind: api.MoveResolve, Node: 1, Path: "g", Effect: dir}}, api.OK},
		{root, with(t, clashing, api.Rec{Kind: api.RecReport, N: 9}), []api.Move{{Kind: api.MoveLearn, Node: 1, Dot: of(2, 1)}, {Kind: api.MoveLearn, Node: 1, Dot: of(4, 1)}, {Kind: api.MoveReport, Node: 1, N: 1}}, api.OK},
		{clashing, with(t, clashing, api.Rec{Kind: api.RecReport, N: 0}), nil, api.OK},
		{with(t, clashing, api.Rec{Kind: api.RecReport, N: 9}), clashing, nil, api.OK},
		{gate, with(t, gate, own(make1(of(3, 1), "g", dir))), nil, api.ErrState},
		{gate, with(t, gate, other(x)), []api.Move{{Kind: api.MoveLearn, Node: 3, Dot: of(4, 1)}}, api.OK},
		{n, api.Node{Number: 2, Kind: api.KindLaptop, Seq: 1}, nil, api.ErrState},
		{m, with(t, m, other(make1(of(4, 1), "f", dir, span(2, 1, 1)))), []api.Move{{Kind: api.MoveLearn, Node: 2, Dot: of(4, 1)}}, api.OK},
	} {
		if got, err := match.Between(c.was, c.now); err != c.err || !sameMoves(got, c.want) {
			t.Error(i, got, err)
		}
	}
}

// What is told is new memory.
func TestMemory(t *testing.T) {
	m := with(t, born(t, 2, api.KindLaptop), own(a))
	was := with(t, m, api.Rec{Kind: api.RecEpoch, N: 1})
	moves, _ := match.Between(born(t, 2, api.KindLaptop), m)
	moves[0].Effect.Bytes[0] = 1
	s := followed(t, enrolled(t, match.New(), api.KindLaptop), 1, m)
	x, y, z := followed(t, s, 0, m), enrolled(t, s, api.KindLaptop), followed(t, s, 0, was)
	for _, o := range []api.Shadow{x, y, z} {
		o.Model.Events[0].Effect.Bytes[0], o.Model.Nodes[1].Known[0].To = 1, 9
		o.Nodes[1].Store[0].Effect.Bytes[0], o.Nodes[0].Number = 1, 9
		_ = append(o.Nodes, api.Node{Number: 7})
	}
	if match.Check(s) != api.OK || !effect.Same(m.Store[0].Effect, file(7)) || !effect.Same(was.Store[0].Effect, file(7)) || !effect.Same(a.Effect, file(7)) {
		t.Error(s, m)
	}
}

// P30.2: which shadows may be, and a node more.
func TestCheckEnrol(t *testing.T) {
	s := match.New()
	if match.Check(s) != api.OK || !model.Same(s.Model, model.New()) || len(s.Nodes) != 1 || s.Nodes[0].Kind != api.KindRoot || s.Nodes[0].Number != 1 {
		t.Error(s)
	}
	s = enrolled(t, s, api.KindLaptop, api.KindGateway)
	if len(s.Nodes) != 3 || s.Nodes[1].Kind != api.KindLaptop || s.Nodes[2].Number != 3 || len(s.Model.Nodes) != 3 || s.Nodes[2].Epoch != 0 {
		t.Error(s)
	}
	m := with(t, born(t, 2, api.KindLaptop), own(a))
	root := with(t, born(t, 1, api.KindRoot), other(a))
	s = followed(t, s, 2, m, root)
	for i, f := range []func(s *api.Shadow){
		func(s *api.Shadow) { *s = api.Shadow{} }, func(s *api.Shadow) { s.Nodes = s.Nodes[:2] }, func(s *api.Shadow) { s.Nodes = append(s.Nodes, born(t, 4, api.KindLaptop)) }, func(s *api.Shadow) { s.Nodes[0], s.Nodes[1] = s.Nodes[1], s.Nodes[0] }, func(s *api.Shadow) { s.Nodes[2].Kind = api.KindLaptop }, func(s *api.Shadow) { s.Nodes[2].Epoch = -1 },
		func(s *api.Shadow) { s.Nodes[1] = born(t, 2, api.KindLaptop) }, func(s *api.Shadow) { s.Nodes[1].Shown = nil }, func(s *api.Shadow) { s.Nodes[1].Shown[0].Effect.Bytes[0] = 1 }, func(s *api.Shadow) { s.Nodes[0].Store = nil }, func(s *api.Shadow) { s.Nodes[0].Store[0].Effect.Mode = 1 }, func(s *api.Shadow) {
			s.Nodes[0].Reports = []api.Report{{Number: 1, Clash: api.Clash{A: of(1, 1), B: of(2, 1)}}}
		}, func(s *api.Shadow) { s.Model.Nodes[1].Known = nil }, func(s *api.Shadow) { s.Model.Nodes[2].Kind = api.KindLaptop }, func(s *api.Shadow) { s.Model.Nodes = s.Model.Nodes[:2] }, func(s *api.Shadow) { s.Nodes[2].Number = 4 },
	} {
		x := enrolled(t, s, api.KindGateway) // a copy of all that it has
		x.Nodes, x.Model.Nodes = x.Nodes[:3], x.Model.Nodes[:3]
		if match.Check(x) != api.OK {
			t.Fatal("a copy")
		}
		f(&x)
		e, e1 := match.Enrol(x, api.KindLaptop)
		g, n, e2 := match.Follow(x, m)
		if match.Check(x) != api.ErrArg || e1 != api.ErrArg || e2 != api.ErrArg || !isNone(e) || !isNone(g) || n != 0 {
			t.Error(i, match.Check(x), e1, e2)
		}
	}
	for _, kind := range []int{api.KindRoot, 0, 4, -1} {
		if x, err := match.Enrol(s, kind); err != api.ErrArg || !isNone(x) {
			t.Error(kind, err)
		}
	}
	many := match.New()
	for i := 2; i <= 200; i++ {
		many.Model.Nodes = append(many.Model.Nodes, api.Replica{Kind: api.KindGateway})
		many.Nodes = append(many.Nodes, born(t, i, api.KindGateway))
	}
	if x, err := match.Enrol(many, api.KindLaptop); match.Check(many) != api.OK || err != api.ErrFull || !isNone(x) {
		t.Error(err)
	}
}

// P30.3: the chapter's examples, and what is not followed.
func TestFollow(t *testing.T) {
	s := enrolled(t, match.New(), api.KindLaptop)
	n := born(t, 2, api.KindLaptop)
	m := with(t, n, own(a))
	x, moves, err := match.Follow(s, m)
	if err != api.OK || moves != 1 || len(x.Model.Events) != 1 || !event.Same(x.Model.Events[0], a) || len(x.Nodes[1].Store) != 1 {
		t.Error(x, moves, err)
	}
	if y, moves, err := match.Follow(x, m); err != api.OK || moves != 0 || !model.Same(y.Model, x.Model) {
		t.Error(moves, err)
	}
	unshown := with(t, n, own(a))
	unshown.Shown = nil
	kept := with(t, m, api.Rec{Kind: api.RecEpoch, N: 7}, api.Rec{Kind: api.RecPeer, N: 9})
	if y, moves, err := match.Follow(x, kept); err != api.OK || moves != 0 || y.Nodes[1].Epoch != 7 || len(y.Nodes[1].Peers) != 1 {
		t.Error(moves, err)
	}
	for i, c := range []struct {
		s   api.Shadow
		now api.Node
		err api.Errno
	}{
		{match.New(), m, api.ErrMissing}, {s, unshown, api.ErrState}, {s, api.Node{}, api.ErrArg}, {s, born(t, 2, api.KindGateway), api.ErrArg}, {x, n, api.ErrState},
		{s, with(t, m, own(make1(of(2, 2), "g", dir))), api.ErrState},                // two changes at once
		{s, with(t, n, other(make1(of(1, 1), "g", dir))), api.ErrMissing},            // of an event that there never was
		{s, with(t, n, own(make1(of(2, 1), "f", dir, span(1, 1, 1)))), api.ErrState}, // behind what was never shown
		{s, with(t, n, api.Rec{Kind: api.RecShown, Shown: api.Shown{Path: "x", Effect: dir}}), api.ErrMissing},
		{x, with(t, m, api.Rec{Kind: api.RecShown, Shown: api.Shown{Path: "x", Effect: dir}}), api.ErrMissing},
		{x, with(t, born(t, 1, api.KindRoot), other(make1(of(2, 1), "f", file(8)))), api.ErrState}, // another effect than it has
	} {
		if got, moves, err := match.Follow(c.s, c.now); err != c.err || moves != 0 || !isNone(got) {
			t.Error(i, moves, err)
		}
	}
	x = followed(t, x, 2, with(t, born(t, 1, api.KindRoot), other(a), own(make1(of(1, 1), "f", dir))))
	_ = followed(t, x, 1, with(t, born(t, 1, api.KindRoot), other(a), own(make1(of(1, 1), "f", dir)), api.Rec{Kind: api.RecReport, N: 9}))
}
