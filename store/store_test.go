package store_test

import (
	"math/rand"
	"slices"
	"strings"
	"testing"

	"tributary/api"
	"tributary/dot"
	"tributary/event"
	"tributary/past"
	"tributary/path"
	"tributary/print"
	"tributary/store"
)

func of(node, seq int) api.Dot { return api.Dot{Node: node, Seq: seq} }

func span(node, from, to int) api.Span { return api.Span{Node: node, From: from, To: to} }

func file(b ...byte) api.Effect { return api.Effect{Kind: api.KindFile, Bytes: b} }

func make1(d api.Dot, at string, behind ...api.Span) api.Event {
	return api.Event{Dot: d, Path: at, Effect: file(byte(d.Node)), Past: behind}
}

// a, b and c are the chapter's.
var (
	a = make1(of(1, 1), "f")
	b = make1(of(2, 1), "f", span(1, 1, 1))
	c = make1(of(3, 1), "f/g")
	x = make1(of(4, 1), "f-")
)

func list(l ...api.Event) []api.Event { return l }

func same(x, y []api.Event) bool { return slices.EqualFunc(x, y, event.Same) }

var noStores = [][]api.Event{list(c, a), list(a, b), list(x, c), list(a, a), list(a, make1(of(1, 1), "g")), list(a, c, make1(of(7, 1), "f")), list(api.Event{}), list(a, make1(of(5, 1), "F")), list(make1(of(5, 1), "f"), a)}

// P10.1, P10.2, P10.3: what is a store, and what is told of what is none.
func TestCheck(t *testing.T) {
	for i, s := range [][]api.Event{nil, list(a), list(a, c), list(b, c, x), list(a, make1(of(9, 1), "f"), c, make1(of(1, 2), "g"))} {
		if store.Check(s) != api.OK {
			t.Error(i)
		}
	}
	for i, s := range noStores {
		p, e1 := store.Put(s, make1(of(9, 9), "z"))
		j1, e2 := store.Join(s, nil)
		j2, e3 := store.Join(nil, s)
		known, e4 := store.Known(s)
		sum, e5 := store.Print(s)
		for _, err := range []api.Errno{store.Check(s), e1, e2, e3, e4, e5} {
			if err != api.ErrArg {
				t.Error(i, err)
			}
		}
		if len(p)+len(j1)+len(j2)+len(known) > 0 || sum != 0 {
			t.Error(i)
		}
	}
}

// P10.1, P10.3: what is asked of any list.
func TestAnyList(t *testing.T) {
	odd := list(x, c, a, api.Event{Path: "F"}, c, b, api.Event{Path: "f", Dot: of(0, 0)})
	if got := store.Shelf(odd, "f"); !same(got, list(a, b, odd[6])) {
		t.Error(got)
	}
	if got := store.Shelf(odd, "F"); !same(got, odd[3:4]) {
		t.Error(got)
	}
	if got := store.Near(odd, "f/g"); !same(got, list(c, a, c, b, odd[6])) {
		t.Error(got)
	}
	if got := store.Near(odd, "f"); !same(got, list(c, a, c, b, odd[6])) {
		t.Error(got)
	}
	if len(store.Near(odd, "F"))+len(store.Near(odd, ""))+len(store.Shelf(odd, ""))+len(store.Shelf(nil, "f"))+len(store.Near(odd, "f/h/i"))-3 != 0 {
		t.Error("Near")
	}
	if got := store.Paths(odd); !slices.Equal(got, []string{"f-", "f/g", "f", "F"}) || len(store.Paths(nil)) > 0 {
		t.Error(got)
	}
	if got := store.Missing(odd, []api.Span{span(1, 1, 1), span(3, 1, 5)}); !same(got, list(x, odd[3], b, odd[6])) {
		t.Error(got)
	}
	if got := store.Missing(odd, []api.Span{span(1, 2, 1)}); !same(got, odd) {
		t.Error(got)
	}
	if len(store.Missing(nil, nil)) > 0 || len(store.Missing(list(a), []api.Span{span(1, 1, 9)})) > 0 {
		t.Error("Missing")
	}
	if n := store.Size(odd); n != event.Size(a)+event.Size(b)+2*event.Size(c)+event.Size(x) || store.Size(nil) != 0 {
		t.Error(n)
	}
}

// P10.2: put and joined.
func TestPutJoin(t *testing.T) {
	for i, x := range []struct {
		s    []api.Event
		e    api.Event
		want []api.Event
		err  api.Errno
	}{
		{nil, c, list(c), api.OK}, {list(c), a, list(a, c), api.OK}, {list(a, c), b, list(b, c), api.OK}, {list(b, c), a, list(b, c), api.OK}, {list(b, c), x, list(b, c, x), api.OK}, {list(b, x), c, list(b, c, x), api.OK},
		{list(b, c), make1(of(1, 9), "f"), list(make1(of(1, 9), "f"), b, c), api.OK}, {list(a, c), a, list(a, c), api.OK}, {list(a, c), make1(of(1, 1), "f", span(7, 1, 1)), list(a, c), api.OK},
		{list(a, c), make1(of(3, 1), "f"), nil, api.ErrExists}, {list(a, c), make1(of(1, 1), "f/g"), nil, api.ErrExists}, {list(a, c), make1(of(1, 1), "z"), nil, api.ErrExists},
		{list(a, c), api.Event{Dot: of(1, 1), Path: "z"}, nil, api.ErrArg}, {list(a), api.Event{}, nil, api.ErrArg},
		{list(a), make1(of(5, 1), "z", span(1, 1, 1)), list(a, make1(of(5, 1), "z", span(1, 1, 1))), api.OK},
	} {
		was := slices.Clone(x.s)
		s, err := store.Put(x.s, x.e)
		if err != x.err || !same(s, x.want) || !same(was, x.s) {
			t.Error(i, s, err)
		}
	}
	for i, x := range []struct {
		a, b, want []api.Event
		err        api.Errno
	}{
		{nil, nil, nil, api.OK}, {list(a, c), list(b), list(b, c), api.OK}, {list(b), list(a, c), list(b, c), api.OK}, {list(a), nil, list(a), api.OK}, {nil, list(a, x), list(a, x), api.OK}, {list(x), list(a, c), list(a, c, x), api.OK},
		{list(a), list(make1(of(1, 1), "g")), nil, api.ErrExists}, {list(a, c), list(b, make1(of(1, 2), "g"), make1(of(3, 1), "h")), nil, api.ErrExists},
	} {
		s, err := store.Join(x.a, x.b)
		if err != x.err || !same(s, x.want) {
			t.Error(i, s, err)
		}
	}
}

// P10.3: whose events there are, and their fingerprint.
func TestKnownPrint(t *testing.T) {
	if l, err := store.Known(list(b, c)); err != api.OK || !slices.Equal(l, []api.Span{span(2, 1, 1), span(3, 1, 1)}) {
		t.Error(l, err)
	}
	if l, err := store.Known(nil); err != api.OK || len(l) > 0 {
		t.Error(l, err)
	}
	var many []api.Event
	for i := range 4001 {
		many = append(many, make1(of(1, 2*i+1), "f"))
	}
	if l, err := store.Known(many[:4000]); err != api.OK || len(l) != 4000 {
		t.Error(len(l), err)
	}
	if l, err := store.Known(many); err != api.ErrFull || len(l) > 0 {
		t.Error(len(l), err)
	}
	var sums []uint64
	for _, e := range list(b, c, x) {
		raw, _ := event.Bytes(e)
		sums = append(sums, print.Sum(raw))
	}
	if n, err := store.Print(list(b, c, x)); err != api.OK || n != print.Mix(sums) {
		t.Error(n, err)
	}
	if n, err := store.Print(nil); err != api.OK || n != print.Start() {
		t.Error(n, err)
	}
}

// history makes closed events, as users do who see some of what was made ahead.
func history(rnd *rand.Rand) []api.Event {
	var l []api.Event
	last := map[int]int{}
	for range rnd.Intn(12) {
		var seen []api.Event
		at := []string{"f", "f/g", "f-", "g"}[rnd.Intn(4)]
		for _, e := range l {
			if path.Near(e.Path, at) && rnd.Intn(2) == 0 {
				seen = append(seen, e)
			}
		}
		behind, _ := event.Past(seen)
		node := 1 + rnd.Intn(4)
		last[node] = max(last[node], past.Last(behind, node)) + 1
		l = append(l, make1(of(node, last[node]), at, behind...))
	}
	return l
}

// P10.4: in any order, any number of times, closed events lead to one store; joined and missing ones, too.
func TestWhatFollows(t *testing.T) {
	rnd := rand.New(rand.NewSource(1))
	put := func(s []api.Event, from []api.Event) []api.Event {
		for _, e := range from {
			out, err := store.Put(s, e)
			if err != api.OK || store.Check(out) != api.OK {
				t.Fatal(s, e, err)
			}
			s = out
		}
		return s
	}
	for range 300 {
		h := history(rnd)
		var want []api.Event
		for _, e := range h {
			if !slices.ContainsFunc(h, func(x api.Event) bool { return x.Path == e.Path && event.Ahead(e, x) }) {
				want = append(want, e)
			}
		}
		slices.SortFunc(want, func(x, y api.Event) int {
			if c := slices.Compare(strings.Split(x.Path, "/"), strings.Split(y.Path, "/")); c != 0 {
				return c
			}
			if dot.Less(x.Dot, y.Dot) {
				return -1
			}
			return 1
		})
		again := slices.Clone(h)
		for range rnd.Intn(4) {
			if len(h) > 0 {
				again = append(again, h[rnd.Intn(len(h))])
			}
		}
		rnd.Shuffle(len(again), func(i, j int) { again[i], again[j] = again[j], again[i] })
		if got := put(nil, again); !same(got, want) {
			t.Fatal(h, got, want)
		}
		n := rnd.Intn(len(again) + 1)
		x, y := put(nil, again[:n]), put(nil, again[n:])
		for range 2 {
			if j, err := store.Join(x, y); err != api.OK || !same(j, want) {
				t.Fatal(x, y, j, want)
			}
			known, _ := store.Known(x)
			if got := put(x, store.Missing(y, known)); !same(got, want) {
				t.Fatal(x, y, got, want)
			}
			x, y = y, x
		}
	}
}

// What is told is new memory.
func TestNew(t *testing.T) {
	mine := make1(of(2, 1), "f", span(9, 1, 1))
	in := append(list(mine, c), x)[:2]
	l1, _ := store.Put(in, x)
	l2, _ := store.Put(in, mine)
	l3, _ := store.Join(in, nil)
	l4, _ := store.Join(nil, in)
	for _, l := range [][]api.Event{l1, l2, l3, l4, store.Shelf(in, "f"), store.Near(in, "f"), store.Missing(in, nil)} {
		l[0].Effect.Bytes[0], l[0].Past[0].To = 9, 9
		l[len(l)-1].Effect.Bytes[0] = 9
		_ = append(l, a, a)
	}
	if mine.Effect.Bytes[0] != 2 || mine.Past[0].To != 1 || c.Effect.Bytes[0] != 3 || x.Effect.Bytes[0] != 4 || !event.Same(in[:3][2], x) {
		t.Error(in)
	}
}
