package script_test

import (
	"bytes"
	"math"
	"math/rand"
	"slices"
	"strings"
	"testing"

	"tributary/api"
	"tributary/effect"
	"tributary/event"
	"tributary/fleet"
	"tributary/script"
	"tributary/topo"
)

func file(b ...byte) api.Effect { return api.Effect{Kind: api.KindFile, Bytes: b} }

var dir = api.Effect{Kind: api.KindDir}

func sameSteps(x, y []api.Step) bool {
	return slices.EqualFunc(x, y, func(x, y api.Step) bool {
		return x.Kind == y.Kind && x.N == y.N && x.At == y.At && x.Path == y.Path && x.To == y.To && effect.Same(x.Effect, y.Effect) && slices.Equal(x.Keep, y.Keep)
	})
}

var (
	text100 = strings.Repeat("x", 100)
	keep20  = slices.Repeat([]int{1000000}, 20)
)

// P31.1: which steps may be in a script.
func TestCheck(t *testing.T) {
	for i, s := range []api.Step{{Kind: 1}, {Kind: 21}, {Kind: 12, N: 200, At: 10000, Path: text100, To: text100, Effect: api.Effect{Kind: 3, Mode: 511, Bytes: make([]byte, 1100)}, Keep: keep20}, {Kind: 5, Keep: []int{0}}} {
		raw, err := script.Put([]api.Step{s})
		back, fault := script.Get(raw)
		if script.Check(s) != api.OK || err != api.OK || fault != (api.Fault{}) || !sameSteps(back, []api.Step{s}) {
			t.Error(i, err, fault)
		}
	}
	for i, s := range []api.Step{{}, {Kind: 22}, {Kind: -1}, {Kind: math.MaxInt}, {Kind: 1, N: -1}, {Kind: 1, N: 201}, {Kind: 1, At: -1}, {Kind: 1, At: 10001}, {Kind: 1, Path: text100 + "x"}, {Kind: 1, To: text100 + "x"}, {Kind: 1, Effect: api.Effect{Kind: 4}}, {Kind: 1, Effect: api.Effect{Kind: -1}}, {Kind: 1, Effect: api.Effect{Mode: 512}}, {Kind: 1, Effect: api.Effect{Mode: -1}}, {Kind: 1, Effect: api.Effect{Bytes: make([]byte, 1101)}},
		{Kind: 1, Keep: append(keep20, 1)}, {Kind: 1, Keep: []int{1, -1}}, {Kind: 1, Keep: []int{1000001}}} {
		raw, err := script.Put([]api.Step{{Kind: 1}, s})
		if script.Check(s) != api.ErrArg || err != api.ErrArg || len(raw) > 0 {
			t.Error(i, err)
		}
	}
}

// P31.1: the bytes, and how many there may be.
func TestPut(t *testing.T) {
	for i, x := range []struct {
		l    []api.Step
		want []byte
	}{
		{nil, []byte{0}}, {[]api.Step{{Kind: api.StepTick, N: 3}}, []byte{1, 1, 1, 12, 1, 3, 0, 0, 0, 0, 0, 0, 0}},
		{[]api.Step{{Kind: 4, N: 5, At: 6, Path: "p", To: "tt", Effect: api.Effect{Kind: 1, Mode: 7, Bytes: []byte{8, 9}}, Keep: []int{10, 0}}, {Kind: 1}}, []byte{1, 2, 1, 4, 1, 5, 1, 6, 1, 1, 112, 1, 2, 116, 116, 1, 1, 1, 7, 1, 2, 8, 9, 1, 2, 1, 10, 0, 1, 1, 0, 0, 0, 0, 0, 0, 0, 0}},
	} {
		if raw, err := script.Put(x.l); err != api.OK || !bytes.Equal(raw, x.want) {
			t.Error(i, raw, err)
		}
	}
	many := slices.Repeat([]api.Step{{Kind: 1}}, 1001)
	raw, err := script.Put(many[:1000])
	if back, fault := script.Get(raw); err != api.OK || fault != (api.Fault{}) || len(back) != 1000 {
		t.Error(err, fault)
	}
	many[0].Kind = 99
	if raw, err := script.Put(many); err != api.ErrLong || len(raw) > 0 {
		t.Error(err)
	}
	big := slices.Repeat([]api.Step{{Kind: 1, Effect: api.Effect{Bytes: make([]byte, 1100)}}}, 1000)
	if raw, err := script.Put(big); err != api.ErrLong || len(raw) > 0 {
		t.Error(err)
	}
}

// P31.1: what is no script.
func TestGet(t *testing.T) {
	head := []byte{1, 1, 1, 12, 1, 3, 0}
	with := func(b ...byte) []byte { return append(slices.Clone(head), b...) }
	long := func(n int) []byte {
		if n < 256 {
			return append([]byte{1, byte(n)}, make([]byte, n)...)
		}
		return append([]byte{2, byte(n >> 8), byte(n)}, make([]byte, n)...)
	}
	for i, x := range []struct {
		b   []byte
		err api.Errno
		at  int
	}{
		{nil, api.ErrBytes, 0}, {[]byte{2, 3, 233}, api.ErrRange, 0}, {[]byte{9}, api.ErrArg, 0}, {[]byte{0, 0}, api.ErrBytes, 1}, {[]byte{1, 1}, api.ErrBytes, 2}, {[]byte{1, 1, 0}, api.ErrRange, 2}, {[]byte{1, 1, 1, 22}, api.ErrRange, 2}, {[]byte{1, 1, 1, 12, 1, 201}, api.ErrRange, 4}, {[]byte{1, 1, 1, 12, 1, 3, 2, 39, 17}, api.ErrRange, 6},
		{with(long(101)...), api.ErrLong, 7}, {with(append([]byte{0}, long(101)...)...), api.ErrLong, 8}, {with(0, 0, 1, 4), api.ErrRange, 9}, {with(0, 0, 0, 2, 2, 0), api.ErrRange, 10}, {with(append([]byte{0, 0, 0, 0}, long(1101)...)...), api.ErrLong, 11}, {with(0, 0, 0, 0, 0, 1, 21), api.ErrRange, 12}, {with(0, 0, 0, 0, 0, 1, 1, 3, 15, 66, 65), api.ErrRange, 14}, {with(0, 0, 0, 0, 0, 1, 2, 0), api.ErrBytes, 15}, {with(0, 0, 0, 0, 0, 0, 0), api.ErrBytes, 13}, {with(0, 0, 0, 0, 0), api.ErrBytes, 12},
		{append([]byte{1, 2}, with(0, 0, 0, 0, 0, 0)[2:]...), api.ErrBytes, 13},
	} {
		if l, fault := script.Get(x.b); fault != (api.Fault{Err: x.err, At: x.at}) || len(l) > 0 {
			t.Error(i, l, fault)
		}
	}
	if l, fault := script.Get([]byte{0}); fault != (api.Fault{}) || len(l) > 0 {
		t.Error(l, fault)
	}
}

// P31.1: what is read is told as its bytes.
func TestOneForm(t *testing.T) {
	rnd := rand.New(rand.NewSource(1))
	raw, _ := script.Put([]api.Step{{Kind: 4, N: 5, At: 6, Path: "p", To: "tt", Effect: api.Effect{Kind: 1, Mode: 7, Bytes: []byte{8, 9}}, Keep: []int{10, 0}}})
	read := 0
	for range 20000 {
		x := slices.Clone(raw)
		for range 1 + rnd.Intn(2) {
			x[rnd.Intn(len(x))] = byte(rnd.Intn(4))
		}
		if l, fault := script.Get(x); fault.Err == api.OK {
			read++
			if back, err := script.Put(l); err != api.OK || !bytes.Equal(back, x) {
				t.Fatal(x, l, back)
			}
		}
	}
	if read < 100 {
		t.Error("too few:", read)
	}
}

// P31.2, P31.3: fleets that nobody made.
func TestNone(t *testing.T) {
	for _, f := range []*fleet.Fleet{nil, {}} {
		if got := script.Run(f, []api.Step{{}, {Kind: 1}}); !slices.Equal(got, []api.Errno{api.ErrNil, api.ErrNil}) || script.Round(f) != api.ErrNil || script.Bound(f) != 0 || script.Settled(f) || len(script.Run(f, nil)) > 0 {
			t.Error(got)
		}
	}
}

// P31.2, P31.3: the chapter's example.
func TestExample(t *testing.T) {
	f, _ := fleet.New(1000)
	if !script.Settled(f) || script.Bound(f) != 8+4*1*3 {
		t.Error(script.Bound(f))
	}
	got := script.Run(f, []api.Step{{Kind: api.StepEnrol, N: api.KindLaptop, At: 1}, {Kind: api.StepEnrol, N: api.KindLaptop, At: 1}, {Kind: api.StepWrite, N: 2, Path: "f", Effect: file(7)}, {Kind: api.StepScan, N: 9}, {Kind: 99}})
	if !slices.Equal(got, []api.Errno{api.OK, api.OK, api.OK, api.ErrArg, api.ErrArg}) || script.Settled(f) || script.Bound(f) != 56 {
		t.Error(got, script.Bound(f))
	}
	for range 4 {
		if err := script.Round(f); err != api.OK {
			t.Error(err)
		}
	}
	if tree := f.Tree(3); !script.Settled(f) || len(tree) != 1 || tree[0].Path != "f" || !effect.Same(tree[0].Effect, file(7)) {
		t.Error(f.Tree(3))
	}
	if script.Bound(f) != 8+4*3*(3+3+2+2) {
		t.Error(script.Bound(f))
	}
	f.Do(api.Step{Kind: api.StepCrash, N: 2})
	if script.Bound(f) != 8+4*3*(3+2+1+2) {
		t.Error(script.Bound(f))
	}
}

// byHand does a fair round as the chapter says it, each step by step.
func byHand(f *fleet.Fleet, step func(s api.Step) api.Errno) {
	do := func(kind, n, at int) api.Errno { return step(api.Step{Kind: kind, N: n, At: at}) }
	live := topo.Live(f.Members())
	for _, n := range live {
		if !f.Up(n) || do(api.StepTick, n, 0) == api.ErrBroken {
			do(api.StepCrash, n, 0)
			do(api.StepRestart, n, 0)
		}
	}
	for range 3 {
		for _, n := range live {
			if f.Up(n) {
				do(api.StepTick, n, 0)
			}
		}
	}
	for range 2 {
		for _, n := range live {
			for _, a := range f.Node(n).Peers {
				do(api.StepOut, n, a.Node)
			}
		}
		for len(f.Air()) > 0 {
			do(api.StepDeliver, 0, 0)
		}
	}
	for _, n := range live {
		for do(api.StepAbsorb, n, 0) == api.OK {
		}
		for do(api.StepScan, n, 0) == api.OK {
		}
		for do(api.StepInstall, n, 0) == api.OK {
		}
	}
	do(api.StepReport, 1, 10000)
}

// same tells whether two fleets stand alike, as far as they tell.
func same(f, g *fleet.Fleet) bool {
	if !slices.Equal(f.Members(), g.Members()) || len(f.Air()) != len(g.Air()) {
		return false
	}
	for i, x := range f.Air() {
		if y := g.Air()[i]; x.From != y.From || x.To != y.To || !bytes.Equal(x.Raw, y.Raw) {
			return false
		}
	}
	for n := 1; n <= len(f.Members()); n++ {
		x, y := f.Node(n), g.Node(n)
		archives := slices.EqualFunc(x.Peers, y.Peers, func(a, b api.Archive) bool { return a.Node == b.Node && slices.Equal(a.Known, b.Known) })
		showing := slices.EqualFunc(x.Shown, y.Shown, func(a, b api.Shown) bool {
			return a.Path == b.Path && effect.Same(a.Effect, b.Effect) && slices.Equal(a.Past, b.Past)
		})
		tree := slices.EqualFunc(f.Tree(n), g.Tree(n), func(a, b api.Entry) bool { return a.Path == b.Path && effect.Same(a.Effect, b.Effect) })
		if f.Up(n) != g.Up(n) || x.Seq != y.Seq || x.Epoch != y.Epoch || !slices.EqualFunc(x.Store, y.Store, event.Same) || !slices.Equal(x.Reports, y.Reports) || !archives || !showing || !tree {
			return false
		}
	}
	return true
}

// P31.2: a fair round is what the chapter says, step by step, whatever state the fleet is in.
func TestRound(t *testing.T) {
	rnd := rand.New(rand.NewSource(4))
	broken := 0
	for range 40 {
		f, g := begin(t, 1000), begin(t, 1000)
		for range 6 {
			busy(rnd, f, 1000, 60, func(s api.Step) api.Errno {
				a, b := f.Do(s), g.Do(s)
				if a != b {
					t.Fatal(s, a, b)
				}
				return a
			})
			for range rnd.Intn(4) { // disks go out while the round goes on, or while a node is down
				s := api.Step{Kind: api.StepFuse, N: 1 + rnd.Intn(len(f.Members())), At: rnd.Intn(8)}
				if rnd.Intn(4) == 0 {
					f.Do(api.Step{Kind: api.StepCrash, N: s.N})
					g.Do(api.Step{Kind: api.StepCrash, N: s.N})
				}
				f.Do(s)
				g.Do(s)
			}
			for range 2 {
				for n := range f.Members() {
					if f.Up(n+1) && f.Do(api.Step{Kind: api.StepTick, N: n + 1}) == api.ErrBroken {
						broken++
					}
					g.Do(api.Step{Kind: api.StepTick, N: n + 1})
				}
				if err := script.Round(f); err != api.OK {
					t.Fatal(err)
				}
				byHand(g, g.Do)
				if !same(f, g) {
					t.Fatal("otherwise than by hand")
				}
			}
		}
	}
	if broken < 20 {
		t.Error("too few:", broken)
	}
}

// P31.2: a round's ticks are enough for what was lost ahead of it to go once more; the fewest that are.
func TestRoundTicks(t *testing.T) {
	for ticks := range 3 {
		f, _ := fleet.New(1000)
		lost := []api.Step{{Kind: api.StepEnrol, N: api.KindLaptop, At: 1}, {Kind: api.StepOut, N: 1, At: 2}, {Kind: api.StepDeliver}, {Kind: api.StepOut, N: 2, At: 1}, {Kind: api.StepDeliver}, {Kind: api.StepWrite, N: 2, Path: "f"}, {Kind: api.StepScan, N: 2}, {Kind: api.StepOut, N: 2, At: 1}, {Kind: api.StepLose}}
		for i, err := range script.Run(f, lost) {
			if err != api.OK {
				t.Fatal(i, err)
			}
		}
		for range ticks {
			f.Do(api.Step{Kind: api.StepTick, N: 2})
		}
		if err := script.Round(f); err != api.OK || len(f.Node(1).Store) != 1 {
			t.Error(ticks, err, f.Node(1).Store)
		}
	}
}

// P31.2: what keeps a fleet from being settled.
func TestSettled(t *testing.T) {
	do := func(f *fleet.Fleet, l ...api.Step) {
		t.Helper()
		for i, err := range script.Run(f, l) {
			if err != api.OK {
				t.Fatal(i, err)
			}
		}
	}
	calmed := func() *fleet.Fleet {
		f := begin(t, 1000)
		do(f, api.Step{Kind: api.StepWrite, N: 3, Path: "f", Effect: file(7)}, api.Step{Kind: api.StepWrite, N: 3, Path: "o"})
		settle(t, f)
		return f
	}
	write := api.Step{Kind: api.StepWrite, N: 3, Path: "f", Effect: file(8)}
	for i, x := range []struct {
		l       []api.Step
		settled bool
	}{
		{nil, true},
		{[]api.Step{{Kind: api.StepTick, N: 3}}, true},
		{[]api.Step{{Kind: api.StepCrash, N: 3}}, false},                                                                  // a live node is down
		{[]api.Step{{Kind: api.StepCrash, N: 3}, {Kind: api.StepKill, N: 3}}, true},                                       // a dead one counts no more
		{[]api.Step{{Kind: api.StepCrash, N: 6}, {Kind: api.StepKill, N: 5}}, true},                                       // nor does one that is cut off
		{[]api.Step{{Kind: api.StepCrash, N: 2}, {Kind: api.StepRestart, N: 2}, {Kind: api.StepOut, N: 2, At: 1}}, false}, // a frame in the air
		{[]api.Step{{Kind: api.StepRename, N: 3, Path: "f", To: "e"}}, false},
		{[]api.Step{{Kind: api.StepChmod, N: 3, Path: "f", Effect: api.Effect{Mode: 1}}}, false},
		{[]api.Step{{Kind: api.StepRemove, N: 3, Path: "f"}}, false},
		{[]api.Step{{Kind: api.StepRemove, N: 3, Path: "o"}, {Kind: api.StepMkdir, N: 3, Path: "o"}}, false},
		{[]api.Step{write}, false},                             // a user's change
		{[]api.Step{write, {Kind: api.StepScan, N: 3}}, false}, // that others do not have
		{[]api.Step{{Kind: api.StepMkdir, N: 3, Path: "d"}, {Kind: api.StepScan, N: 3}, {Kind: api.StepKill, N: 3}}, true},
		{[]api.Step{{Kind: api.StepResolve, N: 1, Path: "g", Effect: dir}}, false}, // that just the root has
	} {
		f := calmed()
		do(f, x.l...)
		if script.Settled(f) != x.settled {
			t.Error(i, script.Settled(f))
		}
		settle(t, f)
	}
	for _, n := range []int{1, 2} {
		f := begin(t, 1000)
		settle(t, f)
		do(f, api.Step{Kind: api.StepCrash, N: n})
		if script.Settled(f) {
			t.Error(n, "is down")
		}
	}
	// what all have, but is not shown, or not reported
	f := calmed()
	do(f, write, api.Step{Kind: api.StepScan, N: 3}, api.Step{Kind: api.StepWrite, N: 4, Path: "f", Effect: file(9)}, api.Step{Kind: api.StepScan, N: 4})
	for range 40 {
		for n, m := range f.Members() {
			f.Do(api.Step{Kind: api.StepTick, N: n + 1})
			f.Do(api.Step{Kind: api.StepOut, N: n + 1, At: m.Up})
			f.Do(api.Step{Kind: api.StepOut, N: m.Up, At: n + 1})
			for len(f.Air()) > 0 {
				f.Do(api.Step{Kind: api.StepDeliver})
			}
			f.Do(api.Step{Kind: api.StepAbsorb, N: n + 1})
		}
	}
	if script.Settled(f) {
		t.Error("a clash is not reported")
	}
	do(f, api.Step{Kind: api.StepReport, N: 1, At: 10000})
	if !script.Settled(f) {
		t.Error("what clashes may stand")
	}
	do(f, api.Step{Kind: api.StepResolve, N: 1, Path: "f", Effect: dir})
	for range 40 {
		for n, m := range f.Members() {
			f.Do(api.Step{Kind: api.StepTick, N: n + 1})
			f.Do(api.Step{Kind: api.StepOut, N: n + 1, At: m.Up})
			f.Do(api.Step{Kind: api.StepOut, N: m.Up, At: n + 1})
			for len(f.Air()) > 0 {
				f.Do(api.Step{Kind: api.StepDeliver})
			}
			f.Do(api.Step{Kind: api.StepAbsorb, N: n + 1})
		}
	}
	if script.Settled(f) {
		t.Error("something may be shown next")
	}
	for _, n := range []int{3, 4, 6} {
		do(f, api.Step{Kind: api.StepInstall, N: n})
	}
	if !script.Settled(f) {
		t.Error("all is shown")
	}
}

// What is told is new memory.
func TestMemory(t *testing.T) {
	s := api.Step{Kind: 4, Effect: file(7), Keep: []int{1, 2, 3}[:2]}
	raw, _ := script.Put([]api.Step{s})
	l, _ := script.Get(raw)
	l[0].Effect.Bytes[0], l[0].Keep[0] = 1, 9
	_ = append(l[0].Keep, 9)
	again, _ := script.Get(raw)
	if s.Effect.Bytes[0] != 7 || s.Keep[0] != 1 || s.Keep[:3][2] != 3 || !sameSteps(again, []api.Step{s}) {
		t.Error(s, again)
	}
}
