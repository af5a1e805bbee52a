package ledger_test

import (
	"bytes"
	"math"
	"math/rand"
	"slices"
	"testing"

	"tributary/api"
	"tributary/clash"
	"tributary/event"
	"tributary/ledger"
	"tributary/past"
	"tributary/path"
	"tributary/store"
)

func of(node, seq int) api.Dot { return api.Dot{Node: node, Seq: seq} }

func report(number int, a, b api.Dot) api.Report {
	return api.Report{Number: number, Clash: api.Clash{A: a, B: b}}
}

func reports(l ...api.Report) []api.Report { return l }

func list(l ...api.Event) []api.Event { return l }

var (
	dir = api.Effect{Kind: api.KindDir}
	one = api.Effect{Kind: api.KindFile}
)

func make1(d api.Dot, at string, e api.Effect, behind ...api.Span) api.Event {
	return api.Event{Dot: d, Path: at, Effect: e, Past: behind}
}

// a, c and d are the chapter's; two are the two reports of them.
var (
	a   = make1(of(1, 1), "f", one)
	c   = make1(of(3, 1), "f", dir)
	d   = make1(of(4, 1), "f/g", one)
	two = reports(report(1, of(1, 1), of(3, 1)), report(2, of(1, 1), of(4, 1)))
)

// many tells a ledger of so many reports.
func many(n int) []api.Report {
	var l []api.Report
	for i := range n {
		l = append(l, report(i+1, of(1, i+1), of(200, api.MaxSeq-i)))
	}
	return l
}

// P22.1, P22.2, P22.3: what is a ledger, and what is told of what is none.
func TestCheck(t *testing.T) {
	for i, l := range [][]api.Report{nil, two, many(10000), reports(report(1, of(1, 1), of(1, 2)))} {
		raw, err := ledger.Bytes(l)
		back, fault := ledger.Read(raw)
		if ledger.Check(l) != api.OK || err != api.OK || fault != (api.Fault{}) || !slices.Equal(back, l) {
			t.Error(i, err, fault)
		}
	}
	for i, l := range [][]api.Report{
		many(10001), reports(report(0, of(1, 1), of(3, 1))), reports(report(2, of(1, 1), of(3, 1))), reports(two[0], report(3, of(1, 1), of(4, 1))), reports(two[1], two[0]), reports(two[0], report(2, of(1, 1), of(3, 1))),
		reports(report(1, of(3, 1), of(1, 1))), reports(report(1, of(1, 1), of(1, 1))), reports(report(1, of(0, 1), of(1, 1))), reports(report(1, of(1, 1), of(201, 1))), reports(report(1, of(1, 0), of(1, 1))), reports(report(1, of(1, 1), of(1, api.MaxSeq+1))), reports(api.Report{Number: 1}),
	} {
		raw, e1 := ledger.Bytes(l)
		out, left, e2 := ledger.Scan(l, list(a, c), 9)
		if ledger.Check(l) != api.ErrArg || e1 != api.ErrArg || e2 != api.ErrArg || len(raw)+len(out)+left > 0 {
			t.Error(i, e1, e2)
		}
	}
}

// P22.1: what is asked of any list.
func TestAsked(t *testing.T) {
	odd := reports(report(5, of(9, 1), of(1, 1)), two[1], two[0], report(-1, of(0, 0), of(0, 0)), two[0])
	for i, x := range []struct {
		l      []api.Report
		events []api.Event
		want   []api.Report
	}{
		{two, list(a, d), two[1:]}, {two, list(a, c, d), two}, {two, list(a), nil}, {two, list(c, d), nil}, {two, nil, nil}, {nil, list(a), nil},
		{odd, list(api.Event{}, c, make1(of(1, 1), "?", dir)), reports(two[0], odd[3], two[0])}, {odd, list(a, make1(of(9, 1), "z", dir)), odd[:1]},
	} {
		if got := ledger.Open(x.l, x.events); !slices.Equal(got, x.want) {
			t.Error(i, got)
		}
	}
	for i, x := range []struct {
		c    api.Clash
		want bool
	}{{two[0].Clash, true}, {odd[0].Clash, true}, {api.Clash{}, true}, {api.Clash{A: of(3, 1), B: of(1, 1)}, false}, {api.Clash{A: of(1, 1), B: of(5, 1)}, false}} {
		if ledger.Has(odd, x.c) != x.want || ledger.Has(nil, x.c) {
			t.Error(i)
		}
	}
}

// P22.2: each clash once, in order, as long as there is room.
func TestScan(t *testing.T) {
	b := make1(of(1, 2), "f", api.Effect{Kind: api.KindGone})
	for i, x := range []struct {
		l      []api.Report
		events []api.Event
		most   int
		want   []api.Report
		left   int
		err    api.Errno
	}{
		{nil, list(a, c), 9, two[:1], 0, api.OK}, {two[:1], list(a, c, d), 9, two, 0, api.OK}, {two, list(a, c, d), 9, two, 0, api.OK}, {two, list(d, c, a), 9, two, 0, api.OK},
		{nil, list(a, c, d), 1, two[:1], 1, api.OK}, {nil, list(a, c, d), 2, two, 0, api.OK}, {nil, list(a, c, d), 0, nil, 2, api.OK}, {nil, list(a), 0, nil, 0, api.OK}, {two, list(a, c, d), 1, two, 0, api.OK}, {two, list(a, b, c), 2, two, 2, api.OK},
		{two, nil, 0, two, 0, api.OK}, {nil, nil, 10000, nil, 0, api.OK}, {nil, nil, -1, nil, 0, api.ErrArg}, {nil, nil, 10001, nil, 0, api.ErrArg}, {nil, nil, math.MaxInt, nil, 0, api.ErrArg},
		{two[:1], list(a, b, c), 9, reports(two[0], report(2, of(1, 1), of(1, 2)), report(3, of(1, 2), of(3, 1))), 0, api.OK},
		{nil, list(a, api.Event{}, c), 9, two[:1], 0, api.OK},
		{many(10000), list(a, c), 10000, many(10000), 1, api.OK},
	} {
		if got, left, err := ledger.Scan(x.l, x.events, x.most); err != x.err || left != x.left || !slices.Equal(got, x.want) {
			t.Error(i, got, left, err)
		}
	}
}

// P22.3: the bytes, and what is none.
func TestBytes(t *testing.T) {
	if raw, err := ledger.Bytes(two[:1]); err != api.OK || !bytes.Equal(raw, []byte{1, 1, 1, 1, 1, 1, 1, 3, 1, 1}) {
		t.Error(raw, err)
	}
	if raw, err := ledger.Bytes(nil); err != api.OK || !bytes.Equal(raw, []byte{0}) {
		t.Error(raw, err)
	}
	for i, x := range []struct {
		b   []byte
		err api.Errno
		at  int
	}{
		{nil, api.ErrBytes, 0}, {[]byte{2, 39, 17}, api.ErrRange, 0}, {[]byte{0, 0}, api.ErrBytes, 1}, {[]byte{1, 1}, api.ErrBytes, 2}, {[]byte{1, 1, 0}, api.ErrRange, 2}, {[]byte{1, 1, 1, 201}, api.ErrRange, 2}, {[]byte{1, 1, 1, 1, 0}, api.ErrRange, 4}, {[]byte{1, 1, 1, 1, 4, 128, 0, 0, 0}, api.ErrRange, 4}, {[]byte{1, 1, 1, 1, 1, 1, 0}, api.ErrRange, 6}, {[]byte{1, 1, 1, 1, 1, 1, 1, 3, 0}, api.ErrRange, 8},
		{[]byte{1, 2, 1, 1, 1, 1, 1, 3, 1, 1}, api.ErrBytes, 10}, {[]byte{1, 1, 1, 1, 1, 1, 1, 3, 1, 1, 0}, api.ErrBytes, 10}, {[]byte{2, 39, 16}, api.ErrBytes, 3},
		{[]byte{1, 1, 1, 3, 1, 1, 1, 1, 1, 1}, api.ErrArg, 0}, {[]byte{1, 1, 1, 1, 1, 1, 1, 1, 1, 1}, api.ErrArg, 0}, {[]byte{1, 2, 1, 1, 1, 1, 1, 3, 1, 1, 1, 1, 1, 1, 1, 3, 1, 1}, api.ErrArg, 0},
	} {
		if l, fault := ledger.Read(x.b); fault != (api.Fault{Err: x.err, At: x.at}) || len(l) > 0 {
			t.Error(i, l, fault)
		}
	}
}

// P22.4: whatever events come, each clash is reported once, with a number that stays, and clashes; what was followed is not reported any more.
func TestWhatFollows(t *testing.T) {
	rnd := rand.New(rand.NewSource(1))
	found := 0
	for range 300 {
		var s, all []api.Event
		var l []api.Report
		for i := range 12 {
			at := []string{"f", "f/g", "g"}[rnd.Intn(3)]
			e := make1(of(1+rnd.Intn(4), i+1), at, []api.Effect{one, dir, {Kind: api.KindGone}}[rnd.Intn(3)])
			for _, x := range all {
				if path.Near(x.Path, at) && rnd.Intn(2) == 0 {
					e.Past, _ = past.Join(e.Past, x.Past)
					e.Past, _ = past.Add(e.Past, x.Dot)
				}
			}
			all = append(all, e)
			s, _ = store.Put(s, e)
			most := rnd.Intn(20)
			out, left, err := ledger.Scan(l, s, most)
			if err != api.OK || ledger.Check(out) != api.OK || len(out) < len(l) || !slices.Equal(out[:len(l)], l) || len(out) > max(len(l), most) {
				t.Fatal(l, out, err)
			}
			for _, r := range out[len(l):] {
				found++
				if !slices.Contains(clash.All(s), r.Clash) {
					t.Fatal(r)
				}
			}
			missing := 0
			for _, c := range clash.All(s) {
				if !ledger.Has(out, c) {
					missing++
				}
			}
			if missing != left || left > 0 && len(out) < most {
				t.Fatal(missing, left)
			}
			for _, r := range ledger.Open(out, s) {
				if !slices.Contains(clash.All(s), r.Clash) {
					t.Fatal(r)
				}
			}
			l = out
		}
		if !event.Closed(all) {
			t.Fatal(all)
		}
	}
	if found < 500 {
		t.Error("too few:", found)
	}
}

// What is told is new memory.
func TestMemory(t *testing.T) {
	in := append(slices.Clone(two), report(9, of(9, 9), of(9, 9)))[:2]
	out, _, _ := ledger.Scan(in, nil, 9)
	open := ledger.Open(in, list(a, c, d))
	out[0].Number, open[0].Number = 7, 7
	_, _ = append(out, report(8, of(8, 8), of(8, 8))), append(open, report(8, of(8, 8), of(8, 8)))
	few := ledger.Open(in, list(a, d))
	few[0].Number = 7
	if !slices.Equal(in, two) || in[:3][2].Number != 9 {
		t.Error(in[:3])
	}
}
