package model_test

import (
	"math"
	"math/rand"
	"slices"
	"testing"

	"tributary/api"
	"tributary/clash"
	"tributary/effect"
	"tributary/event"
	"tributary/ledger"
	"tributary/model"
	"tributary/past"
	"tributary/shown"
	"tributary/store"
	"tributary/table"
)

func of(node, seq int) api.Dot { return api.Dot{Node: node, Seq: seq} }

func span(node, from, to int) api.Span { return api.Span{Node: node, From: from, To: to} }

func file(b ...byte) api.Effect { return api.Effect{Kind: api.KindFile, Bytes: b} }

var (
	gone = api.Effect{Kind: api.KindGone}
	dir  = api.Effect{Kind: api.KindDir}
)

func make1(d api.Dot, at string, e api.Effect, behind ...api.Span) api.Event {
	return api.Event{Dot: d, Path: at, Effect: e, Past: behind}
}

func show(at string, e api.Effect, behind ...api.Span) api.Shown {
	return api.Shown{Path: at, Effect: e, Past: behind}
}

func enrol(kind int) api.Move { return api.Move{Kind: api.MoveEnrol, N: kind} }
func change(n int, at string, e api.Effect) api.Move {
	return api.Move{Kind: api.MoveChange, Node: n, Path: at, Effect: e}
}
func learn(n int, d api.Dot) api.Move { return api.Move{Kind: api.MoveLearn, Node: n, Dot: d} }
func next(n int) api.Move             { return api.Move{Kind: api.MoveShow, Node: n} }
func report(n, most int) api.Move     { return api.Move{Kind: api.MoveReport, Node: n, N: most} }
func word(n int, at string, e api.Effect) api.Move {
	return api.Move{Kind: api.MoveResolve, Node: n, Path: at, Effect: e}
}

// with tells the model that moves make, which all must be done.
func with(t *testing.T, m api.Model, l ...api.Move) api.Model {
	t.Helper()
	for i, x := range l {
		out, err := model.Do(m, x)
		if err != api.OK || model.Check(out) != api.OK {
			t.Fatal(i, x, err)
		}
		m = out
	}
	return m
}

func refused(t *testing.T, m api.Model, x api.Move, want api.Errno) {
	t.Helper()
	if out, err := model.Do(m, x); err != want || !model.Same(out, api.Model{}) {
		t.Error(x, err, want)
	}
}

// two tells a root and two laptops.
func two(t *testing.T) api.Model {
	t.Helper()
	return with(t, model.New(), enrol(api.KindLaptop), enrol(api.KindLaptop))
}

func odd(node, n int) []api.Span {
	var l []api.Span
	for i := range n {
		l = append(l, span(node, 2*i+1, 2*i+1))
	}
	return l
}

// changed tells a model of which something is otherwise.
func changed(t *testing.T, m api.Model, f func(m *api.Model)) api.Model {
	t.Helper()
	out := with(t, m, enrol(api.KindGateway)) // a copy of all that it has
	out.Nodes = out.Nodes[:len(out.Nodes)-1]
	f(&out)
	return out
}

// full tells a model with events, reports and a showing.
func full(t *testing.T) api.Model {
	t.Helper()
	return with(t, two(t), change(2, "f", file(7)), change(3, "f", file(8)), change(2, "g", dir), learn(1, of(2, 1)), learn(1, of(3, 1)), report(1, 9))
}

// P29.1, P29.2: which models may be, and what is told of those that may not.
func TestCheck(t *testing.T) {
	m := full(t)
	for i, x := range []api.Model{model.New(), two(t), m, changed(t, m, func(m *api.Model) { m.Nodes[1].Known = append(m.Nodes[1].Known, span(3, 1, 1)) })} {
		if model.Check(x) != api.OK {
			t.Error(i)
		}
	}
	for i, f := range []func(m *api.Model){
		func(m *api.Model) { *m = api.Model{} },
		func(m *api.Model) { m.Nodes[0].Kind = api.KindLaptop },
		func(m *api.Model) { m.Nodes[1].Kind = api.KindRoot },
		func(m *api.Model) { m.Nodes[1].Kind = 4 },
		func(m *api.Model) { m.Nodes[1].Kind = 0 },
		func(m *api.Model) { m.Nodes[1].Kind = api.KindGateway }, // it shows something
		func(m *api.Model) { m.Nodes = append(m.Nodes, make([]api.Replica, 200)...) },
		func(m *api.Model) {
			m.Nodes = append(m.Nodes, slices.Repeat([]api.Replica{{Kind: api.KindGateway}}, 198)...)
		},
		func(m *api.Model) { m.Nodes = m.Nodes[:2] }, // 3.1 is of a node that is not there
		func(m *api.Model) { m.Events[0], m.Events[1] = m.Events[1], m.Events[0] },
		func(m *api.Model) { m.Events = append(m.Events, m.Events[2]) },
		func(m *api.Model) { m.Events[0].Path = "F" },
		func(m *api.Model) { m.Events[0].Dot.Seq = 3 },
		func(m *api.Model) { m.Events = m.Events[:2] }, // 3.1 is known, but no event
		func(m *api.Model) { m.Nodes[1].Known = m.Nodes[1].Known[:0] },
		func(m *api.Model) { m.Nodes[0].Known = append(m.Nodes[0].Known, span(3, 3, 3)) },
		func(m *api.Model) { m.Nodes[0].Known = []api.Span{span(2, 2, 1)} },
		func(m *api.Model) { m.Nodes[1].Shown = []api.Shown{show("x/y", dir)} },
		func(m *api.Model) { m.Nodes[0].Shown = []api.Shown{show("x", dir)} },
		func(m *api.Model) { m.Reports[0].Number = 2 },
		func(m *api.Model) { m.Reports[0].Clash.B = of(3, 2) },
		func(m *api.Model) {
			m.Events[1].Past, m.Events[2].Past = []api.Span{span(2, 1, 1)}, []api.Span{span(2, 2, 2)}
		}, // not closed
	} {
		x := changed(t, m, f)
		s, e1 := model.Store(x, 1)
		l, e2 := model.Tree(x, 1)
		if model.Check(x) != api.ErrArg || e1 != api.ErrArg || e2 != api.ErrArg || len(s)+len(l) > 0 {
			t.Error(i, model.Check(x), e1, e2)
		}
		refused(t, x, enrol(api.KindLaptop), api.ErrArg)
	}
}

// P29.1: which are the same.
func TestSame(t *testing.T) {
	m := full(t)
	for i, f := range []func(m *api.Model){
		func(m *api.Model) { m.Events[0].Effect.Bytes[0] = 1 }, func(m *api.Model) { m.Events = m.Events[:2] }, func(m *api.Model) { m.Nodes = m.Nodes[:2] }, func(m *api.Model) { m.Nodes[2].Kind = 1 }, func(m *api.Model) { m.Nodes[0].Known = m.Nodes[0].Known[:1] },
		func(m *api.Model) { m.Nodes[1].Shown[0].Path = "e" }, func(m *api.Model) { m.Nodes[1].Shown[0].Effect.Mode = 1 }, func(m *api.Model) { m.Nodes[1].Shown[0].Past[0].To = 9 }, func(m *api.Model) { m.Reports = nil }, func(m *api.Model) { m.Reports[0].Number = 7 },
	} {
		x := changed(t, m, f)
		if model.Same(m, x) || model.Same(x, m) || !model.Same(x, x) {
			t.Error(i)
		}
	}
	if !model.Same(m, changed(t, m, func(*api.Model) {})) || !model.Same(api.Model{}, api.Model{Events: []api.Event{}, Nodes: []api.Replica{}}) {
		t.Error("same")
	}
	if !model.Same(model.New(), api.Model{Nodes: []api.Replica{{Kind: api.KindRoot}}}) {
		t.Error(model.New())
	}
}

// P29.1: a node's store, and what it shows.
func TestStoreTree(t *testing.T) {
	m := with(t, full(t), change(2, "f", gone), learn(3, of(2, 3)))
	for n, want := range map[int][]api.Event{
		1: {make1(of(2, 1), "f", file(7)), make1(of(3, 1), "f", file(8))}, 2: {make1(of(2, 3), "f", gone, span(2, 1, 1)), make1(of(2, 2), "g", dir)}, 3: {make1(of(2, 3), "f", gone, span(2, 1, 1)), make1(of(3, 1), "f", file(8))},
	} {
		if s, err := model.Store(m, n); err != api.OK || !slices.EqualFunc(s, want, event.Same) {
			t.Error(n, s, err)
		}
	}
	for n, want := range map[int]string{1: "", 2: "g", 3: "f"} {
		l, err := model.Tree(m, n)
		if err != api.OK || len(l) != len(want) || len(l) > 0 && l[0].Path != want {
			t.Error(n, l, err)
		}
	}
	for _, n := range []int{0, 4, -1, math.MaxInt} {
		s, e1 := model.Store(m, n)
		l, e2 := model.Tree(m, n)
		if e1 != api.ErrArg || e2 != api.ErrArg || len(s)+len(l) > 0 {
			t.Error(n, e1, e2)
		}
	}
}

// P29.2: the chapter's examples.
func TestExamples(t *testing.T) {
	m := with(t, two(t), change(2, "d", dir), change(3, "d", dir), learn(1, of(2, 1)), learn(1, of(3, 1)), report(1, 9))
	if len(m.Reports) > 0 {
		t.Error(m.Reports)
	}
	m = with(t, m, change(2, "d/f", file(7)), learn(3, of(2, 1)), learn(3, of(2, 2)), next(3), next(3))
	refused(t, m, next(3), api.ErrMissing)
	l, err := model.Tree(m, 3)
	if err != api.OK || len(l) != 2 || l[0].Path != "d" || l[1].Path != "d/f" {
		t.Error(l, err)
	}
	m = with(t, two(t), change(2, "f", file(7)), change(3, "f", file(8)), learn(1, of(2, 1)), learn(1, of(3, 1)), report(1, 9))
	want := []api.Report{{Number: 1, Clash: api.Clash{A: of(2, 1), B: of(3, 1)}}}
	if !slices.Equal(m.Reports, want) {
		t.Error(m.Reports)
	}
	if m = with(t, m, word(1, "f", file(9)), report(1, 9)); !slices.Equal(m.Reports, want) {
		t.Error(m.Reports)
	}
	refused(t, model.New(), learn(1, of(2, 1)), api.ErrMissing)
	refused(t, model.New(), next(1), api.ErrState)
	refused(t, model.New(), enrol(api.KindRoot), api.ErrArg)
	refused(t, model.New(), change(1, "f", gone), api.ErrState)
}

// P29.2: what each move makes.
func TestDo(t *testing.T) {
	m := with(t, two(t), enrol(api.KindGateway))
	if len(m.Nodes) != 4 || m.Nodes[3].Kind != api.KindGateway || len(m.Nodes[3].Known) > 0 || m.Nodes[1].Kind != api.KindLaptop {
		t.Error(m.Nodes)
	}
	m = with(t, m, change(3, "d", dir), change(2, "e", dir), change(3, "d/f", file(7)), word(1, "z", gone))
	want := []api.Event{make1(of(1, 1), "z", gone), make1(of(2, 1), "e", dir), make1(of(3, 1), "d", dir), make1(of(3, 2), "d/f", file(7), span(3, 1, 1))}
	if !slices.EqualFunc(m.Events, want, event.Same) || !slices.Equal(m.Nodes[2].Known, []api.Span{span(3, 1, 2)}) || len(m.Nodes[2].Shown) != 2 || !slices.Equal(m.Nodes[0].Known, []api.Span{span(1, 1, 1)}) || len(m.Nodes[3].Known) > 0 {
		t.Error(m)
	}
	m = with(t, m, learn(1, of(3, 1)), learn(1, of(3, 2)), learn(4, of(3, 2)), learn(2, of(3, 1)), next(2))
	if !slices.Equal(m.Nodes[0].Known, []api.Span{span(1, 1, 1), span(3, 1, 2)}) || !slices.Equal(m.Nodes[3].Known, []api.Span{span(3, 2, 2)}) || len(m.Nodes[1].Shown) != 2 {
		t.Error(m)
	}
	m = with(t, m, word(1, "d", file(1)))
	if e := m.Events[1]; !event.Same(e, make1(of(1, 2), "d", file(1), span(3, 1, 2))) {
		t.Error(e)
	}
}

// P29.2: what each move is refused for, in order.
func TestRefused(t *testing.T) {
	m := with(t, full(t), enrol(api.KindGateway))
	for kind := api.MoveChange; kind <= api.MoveResolve; kind++ {
		for _, n := range []int{0, 5, -1, math.MaxInt} {
			refused(t, m, api.Move{Kind: kind, Node: n, Path: "x", Effect: dir}, api.ErrArg)
		}
	}
	many := model.New()
	many.Nodes = append(many.Nodes, slices.Repeat([]api.Replica{{Kind: api.KindGateway}}, 199)...)
	last := changed(t, m, func(m *api.Model) {
		m.Events = append(m.Events, make1(of(3, api.MaxSeq), "z", dir))
		m.Nodes[2].Known = append(m.Nodes[2].Known, span(3, api.MaxSeq, api.MaxSeq))
		m.Events = slices.Insert(m.Events, 0, make1(of(1, api.MaxSeq), "y", dir))
		m.Nodes[0].Known = slices.Insert(m.Nodes[0].Known, 0, span(1, api.MaxSeq, api.MaxSeq))
	})
	wide := changed(t, m, func(m *api.Model) {
		m.Nodes[2].Shown = []api.Shown{show("f", file(8), odd(9, 4000)...), show("f/g", gone, span(8, 1, 1))}
	})
	for i, x := range []struct {
		m   api.Model
		x   api.Move
		err api.Errno
	}{
		{m, api.Move{}, api.ErrArg}, {m, api.Move{Kind: 7, Node: 1}, api.ErrArg}, {m, api.Move{Kind: -1, Node: 1}, api.ErrArg}, {m, api.Move{Kind: math.MinInt, Node: 1}, api.ErrArg},
		{m, enrol(api.KindRoot), api.ErrArg}, {m, enrol(0), api.ErrArg}, {m, enrol(4), api.ErrArg}, {many, enrol(api.KindLaptop), api.ErrFull}, {many, enrol(9), api.ErrArg},
		{m, change(1, "F", dir), api.ErrState}, {m, change(4, "f", dir), api.ErrState}, {m, change(2, "F", dir), api.ErrArg}, {m, change(2, "x/y", dir), api.ErrKind}, {m, change(2, "x", api.Effect{}), api.ErrArg}, {last, change(3, "F", dir), api.ErrRange}, {last, change(1, "F", dir), api.ErrState}, {wide, change(3, "f", dir), api.ErrFull},
		{m, learn(2, of(9, 9)), api.ErrMissing}, {m, learn(2, api.Dot{}), api.ErrMissing}, {m, learn(2, of(2, 1)), api.ErrExists}, {m, learn(1, of(3, 1)), api.ErrExists},
		{m, next(1), api.ErrState}, {m, next(4), api.ErrState}, {m, next(2), api.ErrMissing},
		{m, report(2, -1), api.ErrState}, {m, report(4, 9), api.ErrState}, {m, report(1, -1), api.ErrArg}, {m, report(1, 10001), api.ErrArg},
		{m, word(2, "F", dir), api.ErrState}, {m, word(1, "F", dir), api.ErrArg}, {m, word(1, "f", api.Effect{}), api.ErrArg}, {last, word(1, "F", dir), api.ErrRange},
	} {
		if out, err := model.Do(x.m, x.x); err != x.err || !model.Same(out, api.Model{}) {
			t.Error(i, err)
		}
	}
	full := with(t, changed(t, m, func(m *api.Model) { m.Nodes[3].Kind = api.KindLaptop }), enrol(api.KindLaptop))
	for i := range 200 {
		full.Nodes[3].Shown = append(full.Nodes[3].Shown, show(string([]byte{'h' + byte(i/26), 'a' + byte(i%26)}), file(), span(9, 1, 1)))
	}
	refused(t, full, change(4, "zz", dir), api.ErrKind)
}

// P29.2: what is known may be too much.
func TestTooMuch(t *testing.T) {
	m := with(t, model.New(), enrol(api.KindGateway), enrol(api.KindLaptop))
	for i := range 4000 {
		m.Events = append(m.Events, make1(of(2, 2*i+1), "f", gone))
	}
	m.Nodes[1].Known = odd(2, 4000)
	m.Events = append(m.Events, make1(of(3, 1), "g", gone))
	m.Nodes[2].Known = []api.Span{span(3, 1, 1)}
	refused(t, m, learn(2, of(3, 1)), api.ErrFull)
}

// any tells some move of a model.
func any(rnd *rand.Rand, m api.Model) api.Move {
	n := 1 + rnd.Intn(len(m.Nodes))
	at := []string{"d", "d/f", "d/g", "e", "e/f"}[rnd.Intn(5)]
	e := []api.Effect{dir, dir, gone, file(byte(rnd.Intn(2)))}[rnd.Intn(4)]
	d := of(1, 1)
	if len(m.Events) > 0 {
		d = m.Events[rnd.Intn(len(m.Events))].Dot
	}
	switch rnd.Intn(10) {
	case 0:
		return report(1, rnd.Intn(20))
	case 1:
		if rnd.Intn(3) == 0 {
			return word(1, at, e)
		}
		return enrol(2 + rnd.Intn(2))
	case 2, 3:
		return change(n, at, e)
	case 4, 5, 6, 7:
		return learn(n, d)
	}
	return next(n)
}

// P29.3 to P29.6: what is told may be; events and what is known just grow; stores, reports and what is shown.
func TestWhatFollows(t *testing.T) {
	rnd := rand.New(rand.NewSource(1))
	done := map[int]int{}
	for range 60 {
		m := two(t)
		for range 90 {
			if len(m.Nodes) > 5 {
				m = two(t)
			}
			x := any(rnd, m)
			was := changed(t, m, func(*api.Model) {})
			out, err := model.Do(m, x)
			if !model.Same(m, was) || err != api.OK && !model.Same(out, api.Model{}) {
				t.Fatal(x, err)
			}
			if err != api.OK {
				continue
			}
			done[x.Kind]++
			if model.Check(out) != api.OK {
				t.Fatal(x, out)
			}
			for _, e := range m.Events {
				if !slices.ContainsFunc(out.Events, func(o api.Event) bool { return event.Same(o, e) }) {
					t.Fatal(x, e)
				}
			}
			for i, n := range m.Nodes {
				if !past.Within(n.Known, out.Nodes[i].Known) {
					t.Fatal(x, n)
				}
			}
			looksRight(t, out)
			if x.Kind == api.MoveShow {
				showsRight(t, m, out, x.Node)
			}
			if x.Kind == api.MoveReport {
				reportsRight(t, m, out, x.N)
			}
			m = out
		}
	}
	for kind := api.MoveEnrol; kind <= api.MoveResolve; kind++ {
		if done[kind] < 50 {
			t.Error("too few:", done)
		}
	}
}

// looksRight looks at each node's store: of each path what none follows of what it knows.
func looksRight(t *testing.T, m api.Model) {
	t.Helper()
	for i, n := range m.Nodes {
		var want, put []api.Event
		for _, e := range m.Events {
			if past.Has(n.Known, e.Dot) {
				put, _ = store.Put(put, e)
				if !slices.ContainsFunc(m.Events, func(o api.Event) bool {
					return o.Path == e.Path && past.Has(n.Known, o.Dot) && event.Ahead(e, o)
				}) {
					want = append(want, e)
				}
			}
		}
		s, err := model.Store(m, i+1)
		if err != api.OK || len(s) != len(want) || !slices.EqualFunc(s, put, event.Same) {
			t.Fatal(s, want, err)
		}
		for _, e := range want {
			if !slices.ContainsFunc(s, func(o api.Event) bool { return event.Same(o, e) }) {
				t.Fatal(s, want)
			}
		}
	}
}

// showsRight looks whether all that was shown of a path that shows something else is known to what that comes of.
func showsRight(t *testing.T, m, out api.Model, n int) {
	t.Helper()
	s, _ := model.Store(m, n)
	changes := 0
	for _, x := range out.Nodes[n-1].Shown {
		was, _ := shown.Get(m.Nodes[n-1].Shown, x.Path)
		if effect.Same(was.Effect, x.Effect) && slices.Equal(was.Past, x.Past) {
			continue
		}
		changes++
		behind, _ := event.Past(store.Shelf(s, x.Path))
		for _, e := range m.Events {
			if e.Path == x.Path && past.Has(was.Past, e.Dot) && past.Has(m.Nodes[n-1].Known, e.Dot) && !past.Has(behind, e.Dot) {
				t.Fatal(was, x, e)
			}
		}
	}
	if changes != 1 {
		t.Fatal(changes)
	}
}

// reportsRight looks whether reports clash, none twice, and all that clashes is reported, if there is room.
func reportsRight(t *testing.T, m, out api.Model, most int) {
	t.Helper()
	s, _ := model.Store(m, 1)
	all := clash.All(s)
	for _, r := range out.Reports[len(m.Reports):] {
		if !slices.Contains(all, r.Clash) {
			t.Fatal(r)
		}
	}
	for _, c := range all {
		if !ledger.Has(out.Reports, c) && len(out.Reports) < most {
			t.Fatal(c)
		}
	}
	if ledger.Check(out.Reports) != api.OK {
		t.Fatal(out.Reports)
	}
}

// P29.7: if all know all, none clash, and there is a tree, all laptops come to show just that.
func TestTheEnd(t *testing.T) {
	rnd := rand.New(rand.NewSource(2))
	trees := 0
	for range 600 {
		m := two(t)
		for range 30 {
			if x := any(rnd, m); x.Kind != api.MoveEnrol {
				if out, err := model.Do(m, x); err == api.OK {
					m = out
				}
			}
		}
		for n := range m.Nodes {
			for _, e := range m.Events {
				if !past.Has(m.Nodes[n].Known, e.Dot) {
					m = with(t, m, learn(n+1, e.Dot))
				}
			}
		}
		s, _ := model.Store(m, 1)
		var want []api.Entry
		for _, at := range store.Paths(s) {
			if e := store.Shelf(s, at)[0].Effect; e.Kind != api.KindGone {
				want = append(want, api.Entry{Path: at, Effect: e})
			}
		}
		if !clash.Free(s) || table.Check(want) != api.OK {
			continue
		}
		trees++
		for n := 2; n <= 3; n++ {
			for err := api.OK; err == api.OK; {
				var out api.Model
				if out, err = model.Do(m, next(n)); err == api.OK {
					m = out
				}
			}
			got, _ := model.Tree(m, n)
			if diff, err := table.Diff(got, want); err != api.OK || len(diff) > 0 {
				t.Fatal(s, got, want)
			}
		}
	}
	if trees < 50 {
		t.Error("too few:", trees)
	}
}

// What is told is new memory.
func TestMemory(t *testing.T) {
	m := full(t)
	was := changed(t, m, func(*api.Model) {})
	e := file(5)
	out := with(t, m, change(2, "h", e))
	out.Events[0].Effect.Bytes[0], out.Nodes[0].Known[0].To, out.Nodes[1].Shown[0].Effect.Bytes[0], out.Reports[0].Number = 1, 99, 2, 9
	out.Events[2].Effect.Bytes[0] = 3
	s, _ := model.Store(m, 1)
	l, _ := model.Tree(m, 2)
	s[0].Effect.Bytes[0], l[0].Effect.Bytes[0] = 1, 1
	if !model.Same(m, was) || e.Bytes[0] != 5 || out.Nodes[1].Shown[2].Effect.Bytes[0] != 5 || out.Events[0].Effect.Bytes[0] != 1 {
		t.Error(m, out)
	}
}
