package spool_test

import (
	"math"
	"math/rand"
	"slices"
	"testing"

	"tributary/api"
	"tributary/event"
	"tributary/spool"
)

func of(node, seq int) api.Dot { return api.Dot{Node: node, Seq: seq} }

func make1(d api.Dot, b ...byte) api.Event {
	return api.Event{Dot: d, Path: "f", Effect: api.Effect{Kind: api.KindFile, Bytes: b}}
}

// a and b are the chapter's: of 17 and 26 bytes.
var (
	a = make1(of(1, 1))
	b = api.Event{Dot: of(2, 1), Path: "f", Effect: api.Effect{Kind: api.KindGone}, Past: []api.Span{{Node: 1, From: 1, To: 1}}}
)

func begin(t *testing.T, bytes, entries int) *spool.Spool {
	t.Helper()
	s, err := spool.New(bytes, entries)
	if err != api.OK {
		t.Fatal(err)
	}
	return s
}

func want(t *testing.T, errs []api.Errno, wanted ...api.Errno) {
	t.Helper()
	if !slices.Equal(errs, wanted) {
		t.Error(errs, wanted)
	}
}

// waits fails, if not just these wait, or not so many bytes were taken.
func waits(t *testing.T, s *spool.Spool, used, most int, l ...api.Event) {
	t.Helper()
	n, count := s.Used()
	e, ok := s.First()
	if !slices.EqualFunc(s.All(), l, event.Same) || n != used || count != len(l) || s.Most() != most || ok != (len(l) > 0) {
		t.Error(s.All(), n, count, s.Most())
	}
	if ok && !event.Same(e, l[0]) || !ok && !event.Same(e, api.Event{}) {
		t.Error(e)
	}
}

// P21.1: quotas, and spools that nobody made.
func TestNew(t *testing.T) {
	for _, x := range []struct {
		bytes, entries int
		err            api.Errno
	}{{0, 0, api.OK}, {10000000, 10000, api.OK}, {-1, 0, api.ErrArg}, {0, -1, api.ErrArg}, {10000001, 0, api.ErrArg}, {0, 10001, api.ErrArg}, {math.MaxInt, math.MinInt, api.ErrArg}} {
		s, err := spool.New(x.bytes, x.entries)
		if err != x.err || (s == nil) != (err != api.OK) {
			t.Error(x, err)
		}
		waits(t, s, 0, 0)
	}
	for _, s := range []*spool.Spool{nil, {}} {
		want(t, []api.Errno{s.Put(a), s.Put(api.Event{}), s.Drop(of(1, 1))}, api.ErrNil, api.ErrNil, api.ErrNil)
		waits(t, s, 0, 0)
	}
}

// P21.1, P21.2, P21.3: the chapter's examples.
func TestExamples(t *testing.T) {
	s := begin(t, 40, 5)
	want(t, []api.Errno{s.Put(a), s.Put(a), s.Put(b)}, api.OK, api.ErrExists, api.ErrFull)
	waits(t, s, 17, 17, a)
	want(t, []api.Errno{s.Drop(of(1, 1)), s.Put(b)}, api.OK, api.OK)
	waits(t, s, 26, 26, b)
	want(t, []api.Errno{s.Drop(of(1, 1))}, api.ErrMissing)
	want(t, []api.Errno{s.Drop(of(2, 1)), s.Put(a)}, api.OK, api.OK)
	waits(t, s, 17, 26, a)
	s = begin(t, 16, 5)
	want(t, []api.Errno{s.Put(a)}, api.ErrLong)
	s = begin(t, 100, 0)
	want(t, []api.Errno{s.Put(a)}, api.ErrLong)
	waits(t, s, 0, 0)
}

// P21.2: each error, and their order.
func TestPut(t *testing.T) {
	for i, x := range []struct {
		bytes, entries int
		first, second  api.Event
		err            api.Errno
	}{
		{100, 5, a, api.Event{}, api.ErrArg},
		{0, 0, a, make1(of(0, 1)), api.ErrArg},
		{100, 5, a, make1(of(1, 1), 7, 8), api.ErrExists},
		{19, 5, a, make1(of(1, 1), make([]byte, 3)...), api.ErrLong},
		{19, 5, a, make1(of(1, 1)), api.ErrExists},
		{100, 1, a, a, api.ErrExists},
		{100, 1, a, b, api.ErrFull},
		{42, 5, a, b, api.ErrFull},
		{43, 5, a, b, api.OK},
		{43, 2, a, b, api.OK},
		{17, 1, a, b, api.ErrLong},
		{26, 1, a, b, api.ErrFull},
	} {
		s := begin(t, x.bytes, x.entries)
		s.Put(x.first)
		used, count := s.Used()
		err := s.Put(x.second)
		if err != x.err {
			t.Error(i, err)
		}
		if n, c := s.Used(); err != api.OK && (n != used || c != count) {
			t.Error(i, n, c)
		}
	}
}

// P21.3, P21.4: what waits never takes more than the quotas, is told in order, and waits till it is dropped.
func TestWhatFollows(t *testing.T) {
	rnd := rand.New(rand.NewSource(1))
	full := 0
	for range 200 {
		bytes, entries := rnd.Intn(200), rnd.Intn(8)
		s := begin(t, bytes, entries)
		var l []api.Event
		used, most := 0, 0
		for range 60 {
			if rnd.Intn(3) > 0 {
				e := make1(of(1, 1+rnd.Intn(9)), make([]byte, rnd.Intn(20))...)
				exists := slices.ContainsFunc(l, func(x api.Event) bool { return x.Dot == e.Dot })
				fits := used+event.Size(e) <= bytes && len(l) < entries
				switch err := s.Put(e); {
				case err == api.OK && fits && !exists:
					l, used = append(l, e), used+event.Size(e)
					most = max(most, used)
				case err == api.ErrExists && exists, err == api.ErrLong && (event.Size(e) > bytes || entries == 0):
				case err == api.ErrFull && !fits && !exists:
					full++
				default:
					t.Fatal(err, fits, exists)
				}
			} else {
				d := of(1, 1+rnd.Intn(9))
				i := slices.IndexFunc(l, func(x api.Event) bool { return x.Dot == d })
				if err := s.Drop(d); (err == api.OK) != (i >= 0) || i < 0 && err != api.ErrMissing {
					t.Fatal(err)
				}
				if i >= 0 {
					used -= event.Size(l[i])
					l = slices.Delete(l, i, i+1)
				}
			}
			waits(t, s, used, most, l...)
		}
	}
	if full < 200 {
		t.Error("too few:", full)
	}
}

// What is handed in is not kept, what is told is new memory.
func TestMemory(t *testing.T) {
	s := begin(t, 100, 5)
	e := make1(of(3, 1), 7)
	e.Past = []api.Span{{Node: 1, From: 1, To: 1}}
	s.Put(e)
	e.Effect.Bytes[0], e.Past[0].To = 1, 9
	first, _ := s.First()
	first.Effect.Bytes[0], first.Past[0].To = 1, 9
	all := s.All()
	if all[0].Effect.Bytes[0] != 7 || all[0].Past[0].To != 1 {
		t.Error(all)
	}
	all[0].Effect.Bytes[0], all[0].Past[0].To = 1, 9
	_ = append(all, a)
	if again, _ := s.First(); again.Effect.Bytes[0] != 7 || again.Past[0].To != 1 {
		t.Error(again)
	}
}
