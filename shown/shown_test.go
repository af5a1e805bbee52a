package shown_test

import (
	"math/rand"
	"slices"
	"strings"
	"testing"

	"tributary/api"
	"tributary/clash"
	"tributary/effect"
	"tributary/event"
	"tributary/past"
	"tributary/path"
	"tributary/shown"
	"tributary/store"
	"tributary/table"
)

func of(node, seq int) api.Dot { return api.Dot{Node: node, Seq: seq} }

func span(node, from, to int) api.Span { return api.Span{Node: node, From: from, To: to} }

func file(b ...byte) api.Effect { return api.Effect{Kind: api.KindFile, Bytes: b} }

var (
	gone = api.Effect{Kind: api.KindGone}
	dir  = api.Effect{Kind: api.KindDir}
)

func make1(d api.Dot, at string, e api.Effect, behind ...api.Span) api.Event {
	return api.Event{Dot: d, Path: at, Effect: e, Past: behind}
}

func show(at string, e api.Effect, behind ...api.Span) api.Shown {
	return api.Shown{Path: at, Effect: e, Past: behind}
}

func list(l ...api.Event) []api.Event { return l }

func shows(l ...api.Shown) []api.Shown { return l }

// a, b and c are the chapter's.
var (
	a  = make1(of(1, 1), "d", dir)
	b  = make1(of(2, 1), "d/f", file(7), span(1, 1, 1))
	c  = make1(of(3, 1), "d", gone, span(1, 1, 1))
	ld = shows(show("d", dir, span(1, 1, 1)))
)

func alike(x, y api.Shown) bool {
	return x.Path == y.Path && effect.Same(x.Effect, y.Effect) && slices.Equal(x.Past, y.Past)
}

func same(x, y []api.Shown) bool { return slices.EqualFunc(x, y, alike) }

// odd tells a past of so many spans, each of one dot of the node.
func odd(node, n int) []api.Span {
	var l []api.Span
	for i := range n {
		l = append(l, span(node, 2*i+1, 2*i+1))
	}
	return l
}

// full is a showing of so many Files.
func full(n int) []api.Shown {
	var l []api.Shown
	for i := range n {
		l = append(l, show(string([]byte{'a' + byte(i/26), 'a' + byte(i%26)}), file(), span(1, 1, 1)))
	}
	return l
}

var noShowings = [][]api.Shown{
	shows(show("d/f", file())), shows(show("b", dir), show("a", dir)), shows(show("a", dir), show("a", dir)), shows(show("A", dir)), shows(show("a", api.Effect{})), shows(show("a", dir, span(1, 2, 1))),
	shows(show("d", gone), show("d/f", file())), shows(show("d", file()), show("d/f", file())), shows(show("a", gone), show("a", gone)), shows(show("", gone)), shows(show("a", gone, span(1, 2, 1))), shows(show("a", api.Effect{Kind: api.KindGone, Mode: 1})),
	full(201), shows(show("a", dir), show("a-", dir), show("a/b", dir)),
}

// P12.1, P12.2, P12.3, P12.4: what is a showing, and what is told of what is none.
func TestCheck(t *testing.T) {
	for i, l := range [][]api.Shown{nil, ld, shows(show("d", gone), show("d/f", gone, span(1, 1, 1))), shows(show("d/f", gone)), full(200), append(full(200), show("zz", gone)), shows(show("d", dir), show("d/e", dir), show("d/e/f", file(1)), show("d/g", gone), show("d-", dir))} {
		if shown.Check(l) != api.OK {
			t.Error(i)
		}
	}
	for i, l := range noShowings {
		tree, e1 := shown.Tree(l)
		behind, e2 := shown.Past(l, "z")
		put, e3 := shown.Put(l, show("z", dir))
		ev, made, e4 := shown.Make(l, of(9, 1), "z", dir)
		next, ok := shown.Next(l, list(make1(of(9, 1), "z", dir)))
		for _, err := range []api.Errno{shown.Check(l), e1, e2, e3, e4} {
			if err != api.ErrArg {
				t.Error(i, err)
			}
		}
		if len(tree)+len(behind)+len(put)+len(made) > 0 || !event.Same(ev, api.Event{}) || ok || !alike(next, api.Shown{}) {
			t.Error(i)
		}
	}
}

// P12.1: the tree, what is shown of a path, and the pasts near it.
func TestAsked(t *testing.T) {
	l := shows(show("a", gone, span(5, 1, 1)), show("d", dir, span(1, 1, 1)), show("d/e", dir, span(1, 1, 2)), show("d/e/f", file(7), span(2, 1, 3)), show("d/g", gone, span(3, 1, 1)), show("d-", file(), span(4, 1, 1)))
	tree, err := shown.Tree(l)
	var paths []string
	for _, x := range tree {
		paths = append(paths, x.Path)
	}
	if err != api.OK || table.Check(tree) != api.OK || strings.Join(paths, " ") != "d d/e d/e/f d-" || !effect.Same(tree[2].Effect, file(7)) {
		t.Error(tree, err)
	}
	for at, want := range map[string][]api.Span{
		"d": {span(1, 1, 2), span(2, 1, 3), span(3, 1, 1)}, "d/e": {span(1, 1, 2), span(2, 1, 3)}, "d/e/f": {span(1, 1, 2), span(2, 1, 3)}, "d/e/f/x": {span(1, 1, 2), span(2, 1, 3)}, "d/g": {span(1, 1, 1), span(3, 1, 1)}, "d/x/y": {span(1, 1, 1)}, "e": nil, "a": {span(5, 1, 1)}, "a/b": {span(5, 1, 1)},
	} {
		if got, err := shown.Past(l, at); err != api.OK || !slices.Equal(got, want) {
			t.Error(at, got, err)
		}
	}
	for _, at := range []string{"", "D", "d/"} {
		if got, err := shown.Past(l, at); err != api.ErrArg || len(got) > 0 {
			t.Error(at, got, err)
		}
	}
	if x, ok := shown.Get(append(l, show("d", file(9))), "d"); !ok || !alike(x, l[1]) {
		t.Error(x, ok)
	}
	if x, ok := shown.Get(shows(show("?", gone), show("?", dir)), "?"); !ok || !effect.Same(x.Effect, gone) {
		t.Error(x, ok)
	}
	if x, ok := shown.Get(l, "e"); ok || !alike(x, api.Shown{}) {
		t.Error(x, ok)
	}
	wide := shows(show("d", dir, odd(7, 4000)...), show("d/e", gone, span(8, 1, 1)), show("d/g", gone, span(7, 1, 9000)))
	if got, err := shown.Past(wide, "d/e"); err != api.ErrFull || len(got) > 0 {
		t.Error(len(got), err)
	}
	if got, err := shown.Past(wide, "d"); err != api.OK || !slices.Equal(got, []api.Span{span(7, 1, 9000), span(8, 1, 1)}) {
		t.Error(len(got), err)
	}
}

// P12.2: something else is shown of a path.
func TestPut(t *testing.T) {
	l := shows(show("d", dir, span(1, 1, 1)), show("d/f", file(7), span(2, 1, 1)))
	for i, x := range []struct {
		l    []api.Shown
		x    api.Shown
		want []api.Shown
		err  api.Errno
	}{
		{nil, show("d", dir), shows(show("d", dir)), api.OK},
		{l, show("d/f", gone, span(3, 1, 1)), shows(l[0], show("d/f", gone, span(3, 1, 1))), api.OK},
		{l, show("d/a", file()), shows(l[0], show("d/a", file()), l[1]), api.OK},
		{l, show("d-", file()), shows(l[0], l[1], show("d-", file())), api.OK},
		{l, show("a", gone), shows(show("a", gone), l[0], l[1]), api.OK},
		{l, show("a/b/c", gone), shows(show("a/b/c", gone), l[0], l[1]), api.OK},
		{l, show("d", api.Effect{Kind: api.KindDir, Mode: 7}), shows(show("d", api.Effect{Kind: api.KindDir, Mode: 7}), l[1]), api.OK},
		{nil, show("d/g", file(), span(1, 1, 1)), nil, api.ErrKind},
		{l, show("d", gone), nil, api.ErrKind},
		{l, show("d", file()), nil, api.ErrKind},
		{l, show("d/f/g", file()), nil, api.ErrKind},
		{full(200), show("zz", file()), nil, api.ErrKind},
		{full(200), show("aa", dir), append(shows(show("aa", dir)), full(200)[1:]...), api.OK},
		{l, show("D", dir), nil, api.ErrArg},
		{l, show("e", api.Effect{}), nil, api.ErrArg},
		{l, show("e", dir, span(1, 2, 1)), nil, api.ErrArg},
		{l, show("e/f", api.Effect{}), nil, api.ErrArg},
	} {
		was := slices.Clone(x.l)
		got, err := shown.Put(x.l, x.x)
		if err != x.err || !same(got, x.want) || !same(was, x.l) {
			t.Error(i, got, err)
		}
	}
}

// P12.3: a user's change.
func TestMake(t *testing.T) {
	for i, x := range []struct {
		l    []api.Shown
		d    api.Dot
		at   string
		e    api.Effect
		past []api.Span
		err  api.Errno
	}{
		{ld, of(4, 1), "d/g", file(1), []api.Span{span(1, 1, 1)}, api.OK},
		{nil, of(4, 1), "d/g", file(1), nil, api.ErrKind},
		{ld, of(4, 1), "d", file(1), []api.Span{span(1, 1, 1)}, api.OK},
		{ld, of(1, 2), "d", gone, []api.Span{span(1, 1, 1)}, api.OK},
		{ld, of(4, 9), "e", dir, nil, api.OK},
		{ld, of(1, 1), "d", dir, nil, api.ErrArg},
		{ld, of(1, 1), "e", dir, nil, api.OK},
		{ld, of(0, 1), "d", dir, nil, api.ErrArg},
		{ld, of(4, 1), "D", dir, nil, api.ErrArg},
		{ld, of(4, 1), "d", api.Effect{}, nil, api.ErrArg},
		{shows(show("d", dir), show("d/f", file())), of(4, 1), "d", gone, nil, api.ErrKind},
		{full(200), of(4, 1), "zz", file(), nil, api.ErrKind},
		{shows(show("d", dir, odd(7, 4000)...)), of(4, 1), "d", dir, nil, api.ErrFull},
		{shows(show("d", dir, odd(7, 4000)...), show("d/e", gone, span(8, 1, 1))), of(4, 1), "d", dir, nil, api.ErrFull},
		{shows(show("d", dir, odd(7, 4000)...)), of(7, 8000), "d", dir, odd(7, 4000), api.OK},
		{shows(show("d", dir, odd(7, 4000)...), show("d/e", gone, span(8, 1, 1))), of(0, 1), "d", dir, nil, api.ErrArg},
		{shows(show("d", dir, odd(7, 4000)...), show("d/e", gone, span(8, 1, 1))), of(4, 1), "d", api.Effect{}, nil, api.ErrArg},
		{shows(show("d", dir, odd(7, 4000)...), show("d/e", gone, span(8, 1, 1))), of(4, 1), "D", dir, nil, api.ErrArg},
	} {
		ev, got, err := shown.Make(x.l, x.d, x.at, x.e)
		if err != x.err {
			t.Error(i, err)
			continue
		}
		if err != api.OK {
			if !event.Same(ev, api.Event{}) || len(got) > 0 {
				t.Error(i, ev, got)
			}
			continue
		}
		with, _ := past.Add(x.past, x.d)
		want, _ := shown.Put(x.l, show(x.at, x.e, with...))
		if !event.Same(ev, make1(x.d, x.at, x.e, x.past...)) || !same(got, want) || event.Check(ev) != api.OK {
			t.Error(i, ev, got)
		}
	}
}

// P12.4: what may be shown next.
func TestNext(t *testing.T) {
	lf := shows(show("d", dir, span(1, 1, 1)), show("d/f", file(7), span(1, 1, 1), span(2, 1, 1)))
	over := make1(of(5, 1), "d", file(), span(1, 1, 1))
	for i, x := range []struct {
		l      []api.Shown
		events []api.Event
		want   api.Shown
		ok     bool
	}{
		{nil, list(a, b), show("d", dir, span(1, 1, 1)), true},
		{nil, list(b, a), show("d", dir, span(1, 1, 1)), true},
		{nil, list(b), api.Shown{}, false},
		{ld, list(a, b), show("d/f", file(7), span(1, 1, 1), span(2, 1, 1)), true},
		{lf, list(a, b), api.Shown{}, false},
		{nil, list(b, c), api.Shown{}, false},
		{ld, list(b, c), api.Shown{}, false},
		{ld, list(c), show("d", gone, span(1, 1, 1), span(3, 1, 1)), true},
		{nil, list(c), show("d", gone, span(1, 1, 1), span(3, 1, 1)), true},
		{lf, list(c), api.Shown{}, false},
		{lf, list(over), api.Shown{}, false},
		{ld, list(over), show("d", file(), span(1, 1, 1), span(5, 1, 1)), true},
		{nil, nil, api.Shown{}, false},
		// one shelf of two that are alike; a shelf that is none: of followed ones, or of one dot twice
		{nil, list(make1(of(6, 1), "d", dir), a), show("d", dir, span(1, 1, 1), span(6, 1, 1)), true},
		{nil, list(a, c), api.Shown{}, false},
		{nil, list(a, a), api.Shown{}, false},
		{nil, list(a, make1(of(6, 1), "d", file())), api.Shown{}, false},
		// shown as it is but for the effect, or for the past
		{shows(show("d", file(), span(1, 1, 1))), list(a), show("d", dir, span(1, 1, 1)), true},
		{shows(show("d", dir)), list(a), show("d", dir, span(1, 1, 1)), true},
		{shows(show("d", dir, span(1, 1, 9))), list(a), api.Shown{}, false},
		{shows(show("d", dir, span(2, 1, 1))), list(a), show("d", dir, span(1, 1, 1), span(2, 1, 1)), true},
		{shows(show("d", gone, span(1, 1, 1))), list(make1(of(1, 1), "d", gone)), api.Shown{}, false},
		// a parent that is gone, a File, or not shown; the first path in order that is ready
		{shows(show("d", gone, span(1, 1, 1))), list(b), api.Shown{}, false},
		{shows(show("d", file(), span(1, 1, 1))), list(b), api.Shown{}, false},
		{nil, list(b, make1(of(7, 1), "d-", dir), make1(of(8, 1), "e", dir)), show("d-", dir, span(7, 1, 1)), true},
		{nil, list(make1(of(7, 1), "d/x", gone)), show("d/x", gone, span(7, 1, 1)), true},
		// a clash elsewhere is none of this path's
		{nil, list(make1(of(7, 1), "x", dir), make1(of(8, 1), "x", file()), make1(of(9, 1), "y", dir)), show("y", dir, span(9, 1, 1)), true},
		{ld, list(make1(of(7, 1), "d/x", file()), make1(of(8, 1), "d/x/y", file()), make1(of(9, 1), "d/y", dir)), show("d/y", dir, span(9, 1, 1)), true},
		// a Dir may have something under it
		{lf, list(make1(of(5, 1), "d", api.Effect{Kind: api.KindDir, Mode: 7}, span(1, 1, 1))), show("d", api.Effect{Kind: api.KindDir, Mode: 7}, span(1, 1, 1), span(5, 1, 1)), true},
		// events that may not be
		{nil, list(a, api.Event{}), api.Shown{}, false},
		{nil, list(a, make1(of(7, 1), "X", dir)), api.Shown{}, false},
		// what would be too long
		{shows(show("d", dir, odd(7, 4000)...)), list(a, make1(of(9, 1), "e", dir)), api.Shown{}, false},
		{nil, list(make1(of(1, 1), "d", dir, odd(7, 4000)...), make1(of(9, 1), "e", dir)), api.Shown{}, false},
		{ld, list(make1(of(1, 1), "d", dir, odd(7, 4000)...), make1(of(9, 1), "e", dir)), api.Shown{}, false},
	} {
		got, ok := shown.Next(x.l, x.events)
		if ok != x.ok || !alike(got, x.want) {
			t.Error(i, got, ok)
		}
		if ok {
			if _, err := shown.Put(x.l, got); err != api.OK {
				t.Error(i, err)
			}
		}
	}
}

// A path that has not the least dots first, but all of its shelf, is ready, whatever order the events stand in.
func TestNextAnyOrder(t *testing.T) {
	l := list(make1(of(3, 1), "d", dir), make1(of(1, 1), "d", dir), make1(of(2, 1), "d", dir))
	if x, ok := shown.Next(nil, l); !ok || !slices.Equal(x.Past, []api.Span{span(1, 1, 1), span(2, 1, 1), span(3, 1, 1)}) || l[0].Dot != of(3, 1) {
		t.Error(x, ok, l)
	}
}

// user makes a change that some user may make who is shown l, or nothing.
func user(rnd *rand.Rand, l []api.Shown, d api.Dot) (api.Event, []api.Shown, bool) {
	at := []string{"d", "d/f", "d/f/g", "d/h", "e", "e/f"}[rnd.Intn(6)]
	ev, out, err := shown.Make(l, d, at, []api.Effect{dir, dir, file(byte(rnd.Intn(2))), gone}[rnd.Intn(4)])
	return ev, out, err == api.OK
}

// P12.5, P12.6: Next and Put come to an end, with what the events are, if they do not clash and are a tree.
func TestWhatFollows(t *testing.T) {
	rnd := rand.New(rand.NewSource(1))
	trees := 0
	for range 1500 {
		shownOf, known := make([][]api.Shown, 3), make([][]api.Event, 3)
		var all []api.Event
		for i := range 12 {
			n := rnd.Intn(3)
			if ev, out, ok := user(rnd, shownOf[n], of(n+1, i+1)); ok {
				shownOf[n], all = out, append(all, ev)
				known[n], _ = store.Put(known[n], ev)
			}
			if m := rnd.Intn(3); m != n && rnd.Intn(2) == 0 {
				known[n], _ = store.Join(known[n], known[m])
			}
			shownOf[n] = settle(t, shownOf[n], known[n])
		}
		if !event.Closed(all) {
			t.Fatal(all)
		}
		var end []api.Event
		for _, e := range all {
			end, _ = store.Put(end, e)
		}
		want, tree := treeOf(end)
		if !clash.Free(end) || !tree {
			continue
		}
		trees++
		for n := range shownOf {
			got, _ := shown.Tree(settle(t, shownOf[n], end))
			if diff, err := table.Diff(got, want); err != api.OK || len(diff) > 0 {
				t.Fatal(end, got, want)
			}
		}
	}
	if trees < 100 {
		t.Error("too few:", trees)
	}
}

// treeOf tells the effects of events but Gone, and whether they are a tree.
func treeOf(s []api.Event) ([]api.Entry, bool) {
	var out []api.Entry
	for _, at := range path.Sort(store.Paths(s)) {
		if e := store.Shelf(s, at)[0].Effect; e.Kind != api.KindGone {
			out = append(out, api.Entry{Path: at, Effect: e})
		}
	}
	return out, table.Check(out) == api.OK
}

// settle shows what is next, till there is nothing; it must end behind as many times as there are paths.
func settle(t *testing.T, l []api.Shown, events []api.Event) []api.Shown {
	t.Helper()
	for range len(store.Paths(events)) + 1 {
		x, ok := shown.Next(l, events)
		if !ok {
			return l
		}
		out, err := shown.Put(l, x)
		if err != api.OK {
			t.Fatal(l, x, err)
		}
		l = out
	}
	t.Fatal("no end", l, events)
	return nil
}

// What is told is new memory.
func TestNew(t *testing.T) {
	in := append(shows(show("d", dir, span(1, 1, 1)), show("e", file(7), span(1, 1, 1))), show("spare", dir))[:2]
	tree, _ := shown.Tree(in)
	got, _ := shown.Get(in, "e")
	behind, _ := shown.Past(in, "e")
	put, _ := shown.Put(in, show("f", dir))
	e := file(5)
	ev, made, _ := shown.Make(in, of(5, 1), "e", e)
	f := make1(of(6, 1), "g", file(5))
	next, _ := shown.Next(in, list(f))
	tree[1].Effect.Bytes[0], got.Effect.Bytes[0], put[1].Effect.Bytes[0], next.Effect.Bytes[0] = 1, 1, 1, 1
	got.Past[0].To, behind[0].To, put[1].Past[0].To, next.Past[0].To = 9, 9, 9, 9
	ev.Effect.Bytes[0] = 1
	if made[1].Effect.Bytes[0] != 5 || e.Bytes[0] != 5 || f.Effect.Bytes[0] != 5 {
		t.Error(made, e, f)
	}
	made[1].Effect.Bytes[0], made[0].Past[0].To = 1, 9
	_, _ = append(put, show("x", dir)), append(made, show("x", dir))
	if !same(in[:3], shows(show("d", dir, span(1, 1, 1)), show("e", file(7), span(1, 1, 1)), show("spare", dir))) || e.Bytes[0] != 5 {
		t.Error(in[:3], e)
	}
}
