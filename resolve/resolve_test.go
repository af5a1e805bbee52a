package resolve_test

import (
	"math/rand"
	"slices"
	"strings"
	"testing"

	"tributary/api"
	"tributary/clash"
	"tributary/dot"
	"tributary/event"
	"tributary/past"
	"tributary/path"
	"tributary/resolve"
	"tributary/store"
)

func of(node, seq int) api.Dot { return api.Dot{Node: node, Seq: seq} }

func span(node, from, to int) api.Span { return api.Span{Node: node, From: from, To: to} }

func file(b ...byte) api.Effect { return api.Effect{Kind: api.KindFile, Bytes: b} }

var (
	gone = api.Effect{Kind: api.KindGone}
	dir  = api.Effect{Kind: api.KindDir}
	way  = api.Effect{Kind: api.KindDir, Mode: 493}
)

func make1(d api.Dot, at string, e api.Effect, behind ...api.Span) api.Event {
	return api.Event{Dot: d, Path: at, Effect: e, Past: behind}
}

func list(l ...api.Event) []api.Event { return l }

func pair(a, b api.Dot) api.Clash { return api.Clash{A: a, B: b} }

// a, c and d are the chapter's; s is the store of all three, all is what they make.
var (
	a   = make1(of(1, 1), "f", file(7))
	c   = make1(of(3, 1), "f", dir)
	d   = make1(of(4, 1), "f/g", file())
	s   = list(a, c, d)
	all = []api.Span{span(1, 1, 1), span(3, 1, 1), span(4, 1, 1)}
)

func same(x, y []api.Event) bool { return slices.EqualFunc(x, y, event.Same) }

// odd tells a past of so many spans, each of one dot of the node.
func odd(node, n int) []api.Span {
	var l []api.Span
	for i := range n {
		l = append(l, span(node, 2*i+1, 2*i+1))
	}
	return l
}

// P23.1: the event of an effect at a path.
func TestMake(t *testing.T) {
	wide := list(make1(of(1, 1), "f", dir, odd(7, 4000)...))
	for i, x := range []struct {
		s    []api.Event
		d    api.Dot
		at   string
		e    api.Effect
		want api.Event
		err  api.Errno
	}{
		{s, of(9, 1), "f", gone, make1(of(9, 1), "f", gone, all...), api.OK},
		{s, of(9, 1), "f/g", file(1), make1(of(9, 1), "f/g", file(1), all...), api.OK},
		{s, of(9, 1), "f/h", file(1), make1(of(9, 1), "f/h", file(1), all[:2]...), api.OK},
		{s, of(9, 1), "f/g/h", file(1), make1(of(9, 1), "f/g/h", file(1), all...), api.OK},
		{s, of(9, 1), "g", dir, make1(of(9, 1), "g", dir), api.OK},
		{nil, of(1, 1), "g", dir, make1(of(1, 1), "g", dir), api.OK},
		{s, of(1, 2), "f", dir, make1(of(1, 2), "f", dir, all...), api.OK},
		{s, of(3, 1), "f", gone, api.Event{}, api.ErrExists},
		{s, of(3, 1), "z", gone, api.Event{}, api.ErrExists},
		{s, of(3, 1), "F", gone, api.Event{}, api.ErrArg},
		{s, of(9, 0), "f", gone, api.Event{}, api.ErrArg},
		{s, of(9, 1), "F", gone, api.Event{}, api.ErrArg},
		{s, of(9, 1), "f", api.Effect{}, api.Event{}, api.ErrArg},
		{list(d, a), of(9, 1), "f", gone, api.Event{}, api.ErrArg},
		{s, of(3, 1), "f", api.Effect{}, api.Event{}, api.ErrArg},
		{list(make1(of(9, 5), "f", dir)), of(9, 4), "f", gone, api.Event{}, api.ErrArg},
		{list(make1(of(1, 1), "f", dir, span(9, 5, 5))), of(9, 5), "f", gone, api.Event{}, api.ErrArg},
		{list(make1(of(9, 5), "f", dir)), of(9, 4), "g", gone, make1(of(9, 4), "g", gone), api.OK},
		{wide, of(9, 1), "f", gone, api.Event{}, api.ErrFull},
		{wide, of(9, 1), "g", gone, make1(of(9, 1), "g", gone), api.OK},
		{wide, of(1, 1), "f", gone, api.Event{}, api.ErrExists},
	} {
		if got, err := resolve.Make(x.s, x.d, x.at, x.e); err != x.err || !event.Same(got, x.want) {
			t.Error(i, got, err)
		}
	}
}

// P23.2: what lets one of two stand.
func TestKeep(t *testing.T) {
	for i, x := range []struct {
		s    []api.Event
		c    api.Clash
		keep api.Dot
		d    api.Dot
		want []api.Event
		err  api.Errno
	}{
		{s, pair(of(1, 1), of(3, 1)), of(3, 1), of(9, 1), list(make1(of(9, 1), "f", dir, all...)), api.OK},
		{s, pair(of(1, 1), of(3, 1)), of(1, 1), of(9, 1), list(make1(of(9, 1), "f", file(7), all...)), api.OK},
		{s, pair(of(1, 1), of(4, 1)), of(4, 1), of(9, 1), list(make1(of(9, 1), "f", way, all...)), api.OK},
		{s, pair(of(1, 1), of(4, 1)), of(1, 1), of(9, 1), list(make1(of(9, 1), "f/g", gone, all...)), api.OK},
		{s, pair(of(3, 1), of(4, 1)), of(3, 1), of(9, 1), nil, api.ErrArg},
		{s, pair(of(1, 1), of(1, 1)), of(1, 1), of(9, 1), nil, api.ErrArg},
		{s, pair(of(1, 1), of(5, 1)), of(1, 1), of(9, 1), nil, api.ErrMissing},
		{s, pair(of(0, 0), of(1, 1)), of(1, 1), of(9, 1), nil, api.ErrMissing},
		{s, pair(of(1, 1), of(5, 1)), of(4, 1), of(9, 0), nil, api.ErrMissing},
		{s, pair(of(1, 1), of(3, 1)), of(4, 1), of(9, 1), nil, api.ErrArg},
		{s, pair(of(1, 1), of(3, 1)), of(1, 1), of(9, 0), nil, api.ErrArg},
		{s, pair(of(1, 1), of(3, 1)), of(1, 1), of(4, 1), nil, api.ErrExists},
		{list(d, a), pair(of(1, 1), of(4, 1)), of(1, 1), of(9, 1), nil, api.ErrArg},
		{list(d, a), pair(of(1, 1), of(5, 1)), of(1, 1), of(9, 1), nil, api.ErrArg},
		// the upper one has the greater dot
		{list(make1(of(8, 1), "f", gone), make1(of(2, 1), "f/g/h", dir)), pair(of(2, 1), of(8, 1)), of(2, 1), of(9, 1), list(make1(of(9, 1), "f", way, span(2, 1, 1), span(8, 1, 1))), api.OK},
		{list(make1(of(8, 1), "f", gone), make1(of(2, 1), "f/g/h", dir)), pair(of(2, 1), of(8, 1)), of(8, 1), of(9, 1), list(make1(of(9, 1), "f/g/h", gone, span(2, 1, 1), span(8, 1, 1))), api.OK},
		{list(make1(of(1, 1), "f", dir, odd(7, 4000)...), make1(of(2, 1), "f", file())), pair(of(1, 1), of(2, 1)), of(1, 1), of(9, 1), nil, api.ErrFull},
	} {
		if got, err := resolve.Keep(x.s, x.c, x.keep, x.d); err != x.err || !same(got, x.want) {
			t.Error(i, got, err)
		}
	}
}

// P23.3: what lets both stand.
func TestBoth(t *testing.T) {
	p := pair(of(1, 1), of(3, 1))
	x1 := make1(of(5, 1), "x", dir)
	x2 := make1(of(6, 1), "x", file())
	h := make1(of(7, 1), "h", file())
	hGone := make1(of(7, 1), "h", gone)
	with := func(more ...api.Event) []api.Event {
		out := s
		for _, e := range more {
			out, _ = store.Put(out, e)
		}
		return out
	}
	first := make1(of(9, 1), "f", file(7), all...)
	for i, x := range []struct {
		s    []api.Event
		c    api.Clash
		name string
		d    api.Dot
		want []api.Event
		err  api.Errno
	}{
		{s, p, "h", of(9, 1), list(first, make1(of(9, 2), "h", dir)), api.OK},
		{with(hGone), p, "h", of(9, 1), list(first, make1(of(9, 2), "h", dir, span(7, 1, 1))), api.OK},
		{with(x1), p, "x/y", of(9, 1), list(first, make1(of(9, 2), "x/y", dir, span(5, 1, 1))), api.OK},
		{s, p, "f/h", of(9, 1), nil, api.ErrArg},
		{s, p, "f", of(9, 1), nil, api.ErrArg},
		{s, p, "F", of(9, 1), nil, api.ErrArg},
		{s, p, "F", of(4, 1), nil, api.ErrArg},
		{s, p, "x/y", of(9, 1), nil, api.ErrKind},
		{with(x1, x2), p, "x/y", of(9, 1), nil, api.ErrKind},
		{with(x2), p, "x/y", of(9, 1), nil, api.ErrKind},
		{with(h), p, "h", of(9, 1), nil, api.ErrExists},
		{with(hGone, make1(of(8, 1), "h", dir)), p, "h", of(9, 1), nil, api.ErrExists},
		{with(x2, make1(of(8, 1), "x/y", dir)), p, "x/y", of(9, 1), nil, api.ErrExists},
		{s, pair(of(1, 1), of(4, 1)), "h", of(9, 1), nil, api.ErrArg},
		{s, pair(of(3, 1), of(4, 1)), "h", of(9, 1), nil, api.ErrArg},
		{s, pair(of(1, 1), of(5, 1)), "?", of(9, 1), nil, api.ErrMissing},
		{list(d, a), p, "h", of(9, 1), nil, api.ErrArg},
		{s, p, "h", of(9, 0), nil, api.ErrArg},
		{s, p, "h", of(4, 1), nil, api.ErrExists},
		{with(make1(of(9, 2), "z", dir)), p, "h", of(9, 1), nil, api.ErrExists},
		{s, p, "h", of(9, api.MaxSeq), nil, api.ErrArg},
		{with(hGone, make1(of(9, 7), "h", gone)), p, "h", of(9, 1), nil, api.ErrArg},
	} {
		if got, err := resolve.Both(x.s, x.c, x.name, x.d); err != x.err || !same(got, x.want) {
			t.Error(i, got, err)
		}
	}
	deep := strings.Repeat("a/", 5) + "a"
	if got, err := resolve.Both(list(make1(of(1, 1), deep, gone), make1(of(2, 1), deep, dir)), pair(of(1, 1), of(2, 1)), "b", of(9, 1)); err != api.OK || !effectsAre(got, gone, dir) {
		t.Error(got, err)
	}
}

func effectsAre(l []api.Event, e ...api.Effect) bool {
	return slices.EqualFunc(l, e, func(x api.Event, e api.Effect) bool { return x.Effect.Kind == e.Kind })
}

// history makes closed events, as users do who see some of what was made ahead.
func history(rnd *rand.Rand) []api.Event {
	var l []api.Event
	last := map[int]int{}
	for range 2 + rnd.Intn(10) {
		var seen []api.Event
		at := []string{"f", "f/g", "f/g/h", "g"}[rnd.Intn(4)]
		for _, e := range l {
			if path.Near(e.Path, at) && rnd.Intn(3) == 0 {
				seen = append(seen, e)
			}
		}
		behind, _ := event.Past(seen)
		node := 1 + rnd.Intn(4)
		last[node] = max(last[node], past.Last(behind, node)) + 1
		l = append(l, make1(of(node, last[node]), at, []api.Effect{dir, gone, file(), file(1)}[rnd.Intn(4)], behind...))
	}
	return l
}

// P23.4: put, what was made clashes with nothing that stood there; the pair clashes no more, and what clashes then clashed ahead.
func TestWhatFollows(t *testing.T) {
	rnd := rand.New(rand.NewSource(1))
	spoken := 0
	for range 500 {
		var s []api.Event
		for _, e := range history(rnd) {
			s, _ = store.Put(s, e)
		}
		ahead := clash.All(s)
		for _, p := range ahead {
			words := [][]api.Event{}
			for _, keep := range []api.Dot{p.A, p.B} {
				l, err := resolve.Keep(s, p, keep, of(9, 1))
				if err != api.OK {
					t.Fatal(s, p, err)
				}
				words = append(words, l)
			}
			if l, err := resolve.Both(s, p, "z", of(9, 1)); err == api.OK {
				words = append(words, l)
			}
			for _, l := range words {
				now := s
				for _, e := range l {
					if len(clash.With(s, e)) > 0 || !dot.Less(p.B, e.Dot) {
						t.Fatal(s, e)
					}
					now, _ = store.Put(now, e)
				}
				then := clash.All(now)
				if slices.Contains(then, p) || slices.ContainsFunc(then, func(x api.Clash) bool { return !slices.Contains(ahead, x) }) {
					t.Fatal(s, p, l)
				}
				spoken++
			}
		}
	}
	if spoken < 500 {
		t.Error("too few:", spoken)
	}
}

// What is told is new memory.
func TestMemory(t *testing.T) {
	e := file(5)
	got, _ := resolve.Make(s, of(9, 1), "f", e)
	got.Effect.Bytes[0] = 1
	kept, _ := resolve.Keep(s, pair(of(1, 1), of(3, 1)), of(1, 1), of(9, 1))
	kept[0].Effect.Bytes[0] = 1
	both, _ := resolve.Both(s, pair(of(1, 1), of(3, 1)), "h", of(9, 1))
	both[0].Effect.Bytes[0] = 1
	if e.Bytes[0] != 5 || a.Effect.Bytes[0] != 7 || s[0].Effect.Bytes[0] != 7 {
		t.Error(e, a)
	}
}
