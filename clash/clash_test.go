package clash_test

import (
	"math/rand"
	"slices"
	"testing"

	"tributary/api"
	"tributary/clash"
	"tributary/effect"
	"tributary/event"
	"tributary/past"
	"tributary/path"
)

func of(node, seq int) api.Dot { return api.Dot{Node: node, Seq: seq} }

func span(node, from, to int) api.Span { return api.Span{Node: node, From: from, To: to} }

func file(b ...byte) api.Effect { return api.Effect{Kind: api.KindFile, Bytes: b} }

var (
	gone = api.Effect{Kind: api.KindGone}
	dir  = api.Effect{Kind: api.KindDir}
)

func make1(d api.Dot, at string, e api.Effect, behind ...api.Span) api.Event {
	return api.Event{Dot: d, Path: at, Effect: e, Past: behind}
}

// a to e are the chapter's.
var (
	a = make1(of(1, 1), "f", file())
	b = make1(of(2, 1), "f", gone, span(1, 1, 1))
	c = make1(of(3, 1), "f", dir)
	d = make1(of(4, 1), "f/g", file())
	e = make1(of(5, 1), "f", file())
)

func list(l ...api.Event) []api.Event { return l }

func pair(x, y api.Dot) api.Clash { return api.Clash{A: x, B: y} }

// P11.1: which clash, and their pair, whoever is first.
func TestClash(t *testing.T) {
	for i, x := range []struct {
		a, b api.Event
		want bool
	}{
		{a, b, false}, {a, c, true}, {a, e, false}, {c, d, false}, {a, d, true}, {b, d, true}, {b, c, true}, {b, e, true}, {a, a, false},
		{c, make1(of(6, 1), "f", api.Effect{Kind: api.KindDir, Mode: 1}), true},
		{c, make1(of(6, 1), "f", dir), false},
		{a, make1(of(6, 1), "f/g", gone), false},
		{b, make1(of(6, 1), "f/g", gone), false},
		{a, make1(of(6, 1), "f/g", dir), true},
		{b, make1(of(6, 1), "f/g/h/i", dir), true},
		{a, make1(of(6, 1), "fg", dir), false},
		{a, make1(of(6, 1), "g", dir), false},
		{d, make1(of(6, 1), "f/h", dir), false},
		{a, make1(of(6, 1), "f/g", file(), span(1, 1, 1)), false},
		{make1(of(7, 1), "f", gone, span(4, 1, 1)), d, false},
		{a, make1(of(6, 1), "f", dir, span(1, 2, 2)), true},
		{a, make1(of(1, 1), "f", dir), false},
		{a, make1(of(1, 2), "f", dir), true},
		{a, make1(of(6, 1), "f", api.Effect{}), false},
		{a, make1(of(0, 1), "f", dir), false},
		{a, make1(of(6, 1), "f", dir, span(6, 1, 1)), false},
		{make1(of(6, 1), "F", dir), make1(of(7, 1), "F", file()), false},
		{make1(of(6, 1), "F", gone), make1(of(7, 1), "F/g", file()), false},
		{a, make1(of(6, 1), "f/", dir), false},
	} {
		for range 2 {
			if clash.Clash(x.a, x.b) != x.want {
				t.Error(i)
			}
			p, err := clash.PairOf(x.a, x.b)
			if (err == api.OK) != x.want || !x.want && (p != api.Clash{} || err != api.ErrArg) {
				t.Error(i, p, err)
			}
			x.a, x.b = x.b, x.a
		}
	}
	for _, x := range [][]api.Event{list(c, a), list(a, c)} {
		if p, err := clash.PairOf(x[0], x[1]); p != pair(of(1, 1), of(3, 1)) || err != api.OK {
			t.Error(p, err)
		}
	}
}

// P11.2: all pairs in order, each once; those with one; whether there are none.
func TestAll(t *testing.T) {
	bad := make1(of(0, 9), "f", dir)
	for i, x := range []struct {
		l    []api.Event
		want []api.Clash
	}{
		{nil, nil}, {list(a), nil}, {list(a, c, d), []api.Clash{pair(of(1, 1), of(3, 1)), pair(of(1, 1), of(4, 1))}}, {list(d, c, a, bad), []api.Clash{pair(of(1, 1), of(3, 1)), pair(of(1, 1), of(4, 1))}},
		{list(c, d), nil}, {list(a, e, a), nil}, {list(a, c, a, c), []api.Clash{pair(of(1, 1), of(3, 1))}}, {list(bad, a), nil}, {list(a, b), nil},
		{list(a, b, c, d, e), []api.Clash{pair(of(1, 1), of(3, 1)), pair(of(1, 1), of(4, 1)), pair(of(2, 1), of(3, 1)), pair(of(2, 1), of(4, 1)), pair(of(2, 1), of(5, 1)), pair(of(3, 1), of(5, 1)), pair(of(4, 1), of(5, 1))}},
		{list(a, make1(of(9, 1), "f/g/h/i/j/k", dir)), []api.Clash{pair(of(1, 1), of(9, 1))}},
		{list(a, make1(of(1, 1), "f", gone), make1(of(10, 2), "f", dir), make1(of(10, 1), "f", dir)), []api.Clash{pair(of(1, 1), of(10, 1)), pair(of(1, 1), of(10, 2))}},
	} {
		if got := clash.All(x.l); !slices.Equal(got, x.want) || clash.Free(x.l) != (len(x.want) == 0) {
			t.Error(i, got)
		}
	}
	for i, x := range []struct {
		l    []api.Event
		e    api.Event
		want []api.Dot
	}{
		{list(c, d, e), a, []api.Dot{of(3, 1), of(4, 1)}}, {list(d, c, d, c, e, bad), a, []api.Dot{of(3, 1), of(4, 1)}}, {nil, a, nil}, {list(a), a, nil}, {list(c, d), bad, nil}, {list(a, c), b, []api.Dot{of(3, 1)}},
	} {
		if got := clash.With(x.l, x.e); !slices.Equal(got, x.want) {
			t.Error(i, got)
		}
	}
}

// anyEvents makes closed events, and some that are not.
func anyEvents(rnd *rand.Rand) []api.Event {
	var l []api.Event
	last := map[int]int{}
	for range rnd.Intn(10) {
		var seen []api.Event
		at := []string{"f", "f/g", "f/g/h", "f-", "g"}[rnd.Intn(5)]
		for _, x := range l {
			if path.Near(x.Path, at) && rnd.Intn(3) == 0 {
				seen = append(seen, x)
			}
		}
		behind, _ := event.Past(seen)
		node := 1 + rnd.Intn(5)
		last[node] = max(last[node], past.Last(behind, node)) + 1
		l = append(l, make1(of(node, last[node]), at, []api.Effect{dir, gone, file(), file(1), {}}[rnd.Intn(5)], behind...))
		if x := l[len(l)-1]; event.Check(x) != api.OK {
			l[len(l)-1].Effect = dir
			if rnd.Intn(2) == 0 {
				l[len(l)-1].Path = "F"
			}
		}
		l = slices.DeleteFunc(l, func(x api.Event) bool { return x.Path == "F" })
	}
	return l
}

// clashes is the chapter's word, as it stands there.
func clashes(x, y api.Event) bool {
	if event.Check(x) != api.OK || event.Check(y) != api.OK || x.Dot == y.Dot || event.Ahead(x, y) || event.Ahead(y, x) {
		return false
	}
	if x.Path == y.Path {
		return !effect.Same(x.Effect, y.Effect)
	}
	if path.Under(y.Path, x.Path) {
		x, y = y, x
	}
	return path.Under(x.Path, y.Path) && x.Effect.Kind != api.KindDir && y.Effect.Kind != api.KindGone
}

// P11.3: it does not hang on who is first; what follows two that clash clashes with none of them; all pairs are told by All.
func TestWhatFollows(t *testing.T) {
	rnd := rand.New(rand.NewSource(1))
	found := 0
	for range 2000 {
		l := anyEvents(rnd)
		want := map[api.Clash]bool{}
		for _, x := range l {
			for _, y := range l {
				if clash.Clash(x, y) != clashes(x, y) || clash.Clash(y, x) != clashes(x, y) {
					t.Fatal(x, y)
				}
				if clashes(x, y) {
					p, _ := clash.PairOf(x, y)
					want[p] = true
					follows := make1(of(9, 1), x.Path, dir)
					follows.Past, _ = event.Past(list(x, y))
					if clash.Clash(x, follows) || clash.Clash(follows, y) {
						t.Fatal(x, y)
					}
				}
			}
			dots := clash.With(l, x)
			for _, y := range l {
				if slices.Contains(dots, y.Dot) != clashes(x, y) {
					t.Fatal(x, y, dots)
				}
			}
		}
		got := clash.All(l)
		for _, p := range got {
			if !want[p] {
				t.Fatal(l, p)
			}
		}
		if len(got) != len(want) || clash.Free(l) != (len(want) == 0) {
			t.Fatal(l, got)
		}
		found += len(got)
	}
	if found < 1000 {
		t.Error("too few:", found)
	}
}
