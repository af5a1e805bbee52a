package fleet_test

import (
	"math"
	"math/rand"
	"slices"
	"testing"

	"tributary/api"
	"tributary/disk"
	"tributary/effect"
	"tributary/event"
	"tributary/fleet"
	"tributary/frame"
	"tributary/peer"
	"tributary/store"
	"tributary/table"
	"tributary/topo"
	"tributary/vfs"
)

func file(b ...byte) api.Effect { return api.Effect{Kind: api.KindFile, Bytes: b} }

var dir = api.Effect{Kind: api.KindDir}

func begin(t *testing.T) *fleet.Fleet {
	t.Helper()
	f, err := fleet.New(1000)
	if err != api.OK {
		t.Fatal(err)
	}
	return f
}

func step(kind, n, at int) api.Step { return api.Step{Kind: kind, N: n, At: at} }

func write(n int, path string, b ...byte) api.Step {
	return api.Step{Kind: api.StepWrite, N: n, Path: path, Effect: file(b...)}
}

// do fails, if steps do not answer all OK.
func do(t *testing.T, f *fleet.Fleet, l ...api.Step) {
	t.Helper()
	for i, s := range l {
		if err := f.Do(s); err != api.OK {
			t.Fatal(i, s, err)
		}
	}
}

// answers fails, if a step does not answer this.
func answers(t *testing.T, f *fleet.Fleet, s api.Step, want api.Errno) {
	t.Helper()
	if err := f.Do(s); err != want {
		t.Error(s, err, want)
	}
}

// three tells the chapter's fleet: a root, under it a gateway, under that a laptop.
func three(t *testing.T) *fleet.Fleet {
	t.Helper()
	f := begin(t)
	do(t, f, step(api.StepEnrol, api.KindGateway, 1), step(api.StepEnrol, api.KindLaptop, 2))
	return f
}

// peers tells the numbers of a node's peers.
func peers(f *fleet.Fleet, n int) []int {
	var out []int
	for _, a := range f.Node(n).Peers {
		out = append(out, a.Node)
	}
	return out
}

func has(t *testing.T, f *fleet.Fleet, n int, want ...int) {
	t.Helper()
	if got := peers(f, n); !slices.Equal(got, want) {
		t.Error(n, got, want)
	}
}

// P28.1: fleets of a root alone, and fleets that nobody made.
func TestNew(t *testing.T) {
	for quota, want := range map[int]api.Errno{100: api.OK, 60000: api.OK, 99: api.ErrArg, 60001: api.ErrArg, -1: api.ErrArg, math.MaxInt: api.ErrArg} {
		f, err := fleet.New(quota)
		if err != want || (f == nil) != (err != api.OK) {
			t.Error(quota, err)
		}
		if err == api.OK && (!slices.Equal(f.Members(), topo.New()) || !f.Up(1) || f.Node(1).Kind != api.KindRoot || f.Node(1).Epoch != 1 || len(f.Tree(1)) > 0 || len(f.Air()) > 0) {
			t.Error(quota)
		}
	}
	for i, f := range []*fleet.Fleet{nil, {}} {
		for kind := -1; kind < 24; kind++ {
			answers(t, f, step(kind, 1, 1), api.ErrNil)
		}
		if len(f.Members())+len(f.Tree(1))+len(f.Air())+f.Node(1).Number > 0 || f.Up(1) {
			t.Error(i)
		}
	}
	f := three(t)
	for _, n := range []int{0, -1, 4, math.MaxInt, math.MinInt} {
		if f.Up(n) || f.Node(n).Number != 0 || len(f.Tree(n)) > 0 {
			t.Error(n)
		}
	}
}

// P28.1, P28.2: the chapter's examples.
func TestExamples(t *testing.T) {
	f := three(t)
	if len(f.Members()) != 3 || !f.Up(3) || len(f.Air()) > 0 {
		t.Error(f.Members())
	}
	has(t, f, 2, 1, 3)
	do(t, f, write(3, "f", 7), step(api.StepScan, 3, 0))
	answers(t, f, step(api.StepScan, 3, 0), api.ErrMissing)
	if f.Node(3).Seq != 1 {
		t.Error(f.Node(3))
	}
	answers(t, f, step(api.StepScan, 2, 0), api.ErrState)
	answers(t, f, write(2, "f", 7), api.ErrState)
	do(t, f, step(api.StepOut, 3, 2))
	if air := f.Air(); len(air) != 1 || air[0].From != 3 || air[0].To != 2 || len(air[0].Raw) < 14 {
		t.Error(air)
	}
	do(t, f, step(api.StepDeliver, 0, 0))
	answers(t, f, step(api.StepDeliver, 0, 0), api.ErrMissing)
	answers(t, f, step(api.StepOut, 3, 1), api.ErrMissing)
	do(t, f, step(api.StepKill, 2, 0))
	if f.Up(2) || f.Node(2).Number != 0 {
		t.Error(f.Node(2))
	}
	has(t, f, 1)
	has(t, f, 3)
	do(t, f, step(api.StepMove, 3, 1))
	has(t, f, 3, 1)
	has(t, f, 1, 3)
	answers(t, f, step(api.StepScan, 2, 0), api.ErrDead)
	answers(t, f, step(api.StepKill, 1, 0), api.ErrArg)
	do(t, f, step(api.StepCrash, 3, 0))
	if f.Up(3) || f.Node(3).Number != 0 || len(f.Tree(3)) != 1 {
		t.Error(f.Node(3))
	}
	answers(t, f, step(api.StepScan, 3, 0), api.ErrState)
	do(t, f, step(api.StepRestart, 3, 0))
	answers(t, f, step(api.StepRestart, 3, 0), api.ErrState)
	if f.Node(3).Seq != 1 {
		t.Error(f.Node(3))
	}
}

// P28.2: what is asked ahead of all: the kind, the node, whether it lives.
func TestShared(t *testing.T) {
	f := three(t)
	do(t, f, step(api.StepEnrol, api.KindLaptop, 1), step(api.StepKill, 4, 0))
	for _, kind := range []int{0, -1, 22, math.MaxInt, math.MinInt} {
		answers(t, f, step(kind, 1, 1), api.ErrArg)
	}
	for kind := api.StepEnrol; kind <= api.StepRestart; kind++ {
		free := kind == api.StepEnrol || kind == api.StepDeliver || kind == api.StepDouble || kind == api.StepLose
		for _, n := range []int{0, 5, -1, math.MaxInt} {
			if err := f.Do(step(kind, n, 0)); (err == api.ErrMissing) != (free && kind != api.StepEnrol) || err != api.ErrMissing && err != api.ErrArg {
				t.Error(kind, n, err)
			}
		}
		if err := f.Do(step(kind, 4, 1)); !free && err != api.ErrDead {
			t.Error(kind, err)
		}
	}
}

// P28.2, P28.3: who is enrolled, dies, and moves; and which edges there are then.
func TestTopology(t *testing.T) {
	f := three(t)
	was := f.Members()
	for _, x := range []struct {
		s   api.Step
		err api.Errno
	}{
		{step(api.StepEnrol, api.KindRoot, 1), api.ErrArg}, {step(api.StepEnrol, 0, 1), api.ErrArg}, {step(api.StepEnrol, api.KindLaptop, 3), api.ErrLeaf}, {step(api.StepEnrol, api.KindLaptop, 9), api.ErrArg}, {step(api.StepMove, 2, 2), api.ErrLoop}, {step(api.StepMove, 2, 3), api.ErrLeaf}, {step(api.StepMove, 1, 2), api.ErrArg}, {step(api.StepMove, 3, 9), api.ErrArg}, {step(api.StepKill, 1, 0), api.ErrArg},
	} {
		answers(t, f, x.s, x.err)
	}
	if !slices.Equal(f.Members(), was) || f.Node(1).Epoch != 2 || f.Node(2).Epoch != 3 {
		t.Error(f.Members(), f.Node(1).Epoch, f.Node(2).Epoch)
	}
	do(t, f, step(api.StepEnrol, api.KindGateway, 1), step(api.StepEnrol, api.KindLaptop, 4))
	has(t, f, 1, 2, 4)
	has(t, f, 4, 1, 5)
	has(t, f, 5, 4)
	do(t, f, step(api.StepMove, 4, 2)) // a gateway with what hangs under it
	has(t, f, 1, 2)
	has(t, f, 2, 1, 3, 4)
	has(t, f, 4, 2, 5)
	has(t, f, 5, 4)
	do(t, f, step(api.StepKill, 2, 0))
	answers(t, f, step(api.StepMove, 4, 2), api.ErrDead)
	answers(t, f, step(api.StepEnrol, api.KindLaptop, 2), api.ErrDead)
	has(t, f, 1)
	has(t, f, 4, 5)
	do(t, f, step(api.StepEnrol, api.KindLaptop, 4)) // cut off, but there
	has(t, f, 4, 5, 6)
	do(t, f, step(api.StepMove, 4, 1), step(api.StepMove, 3, 4))
	has(t, f, 1, 4)
	has(t, f, 4, 1, 3, 5, 6)
	do(t, f, step(api.StepKill, 3, 0))
	has(t, f, 4, 1, 5, 6)
	if f.Up(3) || f.Up(2) || len(f.Members()) != 6 || !f.Members()[1].Dead {
		t.Error(f.Members())
	}
	answers(t, f, step(api.StepRestart, 3, 0), api.ErrDead)
	answers(t, f, write(3, "f"), api.ErrDead)
}

// P28.2: a node that is down is not tidied, but when it is started again.
func TestDown(t *testing.T) {
	f := three(t)
	do(t, f, step(api.StepEnrol, api.KindGateway, 1), step(api.StepCrash, 3, 0), step(api.StepMove, 3, 4))
	has(t, f, 2, 1)
	has(t, f, 4, 1, 3)
	do(t, f, step(api.StepRestart, 3, 0))
	has(t, f, 3, 4)
	do(t, f, step(api.StepCrash, 4, 0), step(api.StepEnrol, api.KindLaptop, 4)) // under one that is down
	has(t, f, 5, 4)
	do(t, f, step(api.StepRestart, 4, 0))
	has(t, f, 4, 1, 3, 5)
	do(t, f, step(api.StepCrash, 4, 0), step(api.StepKill, 4, 0))
	has(t, f, 1, 2)
	has(t, f, 5)
	answers(t, f, step(api.StepRestart, 4, 0), api.ErrDead)
}

// P28.2: neighbours are linked by rising numbers, be they above or below: so their links have rising epochs.
func TestTidyOrder(t *testing.T) {
	f := begin(t)
	do(t, f, step(api.StepEnrol, api.KindGateway, 1), step(api.StepCrash, 2, 0), step(api.StepEnrol, api.KindLaptop, 2), step(api.StepEnrol, api.KindGateway, 1), step(api.StepMove, 2, 4), step(api.StepRestart, 2, 0))
	has(t, f, 2, 3, 4)
	for i, n := range []int{3, 4} {
		do(t, f, step(api.StepOut, 2, n))
		if p, fault := frame.GetPacket(f.Air()[i].Raw); fault.Err != api.OK || p.From != f.Node(2).Epoch-1+i {
			t.Error(n, p, fault)
		}
	}
}

// P28.2: what users do, while their nodes are up, or down.
func TestUsers(t *testing.T) {
	f := three(t)
	for range 2 {
		do(t, f, api.Step{Kind: api.StepMkdir, N: 3, Path: "d", Effect: api.Effect{Mode: 5}}, api.Step{Kind: api.StepWrite, N: 3, Path: "d/f", Effect: api.Effect{Mode: 6, Bytes: []byte{7}}},
			api.Step{Kind: api.StepChmod, N: 3, Path: "d/f", Effect: api.Effect{Mode: 8}}, api.Step{Kind: api.StepRename, N: 3, Path: "d", To: "e"})
		tree := f.Tree(3)
		if len(tree) != 2 || tree[0].Path != "e" || tree[0].Effect.Mode != 5 || tree[1].Path != "e/f" || !effect.Same(tree[1].Effect, api.Effect{Kind: api.KindFile, Mode: 8, Bytes: []byte{7}}) {
			t.Error(tree)
		}
		for _, x := range []struct {
			s   api.Step
			err api.Errno
		}{
			{api.Step{Kind: api.StepMkdir, N: 3, Path: "e"}, api.ErrExists}, {write(3, "e"), api.ErrKind}, {api.Step{Kind: api.StepChmod, N: 3, Path: "x"}, api.ErrMissing}, {api.Step{Kind: api.StepRemove, N: 3, Path: "E"}, api.ErrArg}, {api.Step{Kind: api.StepRename, N: 3, Path: "e", To: "e/g"}, api.ErrLoop}, {api.Step{Kind: api.StepRename, N: 3, Path: "e/f", To: "e"}, api.ErrExists},
		} {
			answers(t, f, x.s, x.err)
		}
		do(t, f, api.Step{Kind: api.StepRemove, N: 3, Path: "e"})
		if len(f.Tree(3)) > 0 {
			t.Error(f.Tree(3))
		}
		f.Do(step(api.StepCrash, 3, 0))
	}
	for kind := api.StepWrite; kind <= api.StepRename; kind++ {
		answers(t, f, step(kind, 1, 0), api.ErrState)
		answers(t, f, step(kind, 2, 0), api.ErrState)
	}
}

// P28.2: what nodes do; and none that is down does any of it.
func TestWork(t *testing.T) {
	f := three(t)
	do(t, f, step(api.StepTick, 2, 0), step(api.StepReport, 1, 5), api.Step{Kind: api.StepResolve, N: 1, Path: "g", Effect: dir})
	if n := f.Node(1); n.Seq != 1 || len(n.Store) != 1 || n.Store[0].Path != "g" {
		t.Error(n)
	}
	answers(t, f, step(api.StepReport, 1, -1), api.ErrArg)
	answers(t, f, step(api.StepReport, 3, 5), api.ErrState)
	answers(t, f, step(api.StepInstall, 2, 0), api.ErrState)
	answers(t, f, step(api.StepInstall, 3, 0), api.ErrMissing)
	answers(t, f, step(api.StepAbsorb, 3, 0), api.ErrMissing)
	answers(t, f, api.Step{Kind: api.StepResolve, N: 2, Path: "g", Effect: dir}, api.ErrState)
	answers(t, f, api.Step{Kind: api.StepResolve, N: 1, Path: "G", Effect: dir}, api.ErrArg)
	round := func() {
		for range 3 {
			do(t, f, step(api.StepOut, 1, 2), step(api.StepOut, 2, 1), step(api.StepOut, 2, 3), step(api.StepOut, 3, 2))
			for len(f.Air()) > 0 {
				do(t, f, step(api.StepDeliver, 0, 0))
			}
		}
	}
	round()
	do(t, f, step(api.StepAbsorb, 2, 0))
	round()
	do(t, f, step(api.StepAbsorb, 3, 0), step(api.StepInstall, 3, 0))
	if tree := f.Tree(3); len(tree) != 1 || tree[0].Path != "g" {
		t.Error(tree)
	}
	do(t, f, step(api.StepCrash, 2, 0))
	for _, kind := range []int{api.StepScan, api.StepInstall, api.StepAbsorb, api.StepTick, api.StepReport, api.StepResolve, api.StepOut} {
		answers(t, f, step(kind, 2, 1), api.ErrState)
	}
	do(t, f, step(api.StepOut, 1, 2))
}

// P28.2: frames by their numbers: delivered, doubled, lost.
func TestAir(t *testing.T) {
	f := three(t)
	do(t, f, step(api.StepOut, 3, 2), step(api.StepOut, 2, 3), step(api.StepOut, 2, 1), step(api.StepOut, 1, 2))
	air := func(want ...int) {
		t.Helper()
		var got []int
		for _, x := range f.Air() {
			got = append(got, 10*x.From+x.To)
		}
		if !slices.Equal(got, want) {
			t.Error(got, want)
		}
	}
	air(32, 23, 21, 12)
	do(t, f, step(api.StepDouble, 0, 0), step(api.StepDouble, 0, 99), step(api.StepDouble, -5, -3))
	air(32, 23, 21, 12)
	do(t, f, step(api.StepLose, 0, 5))
	air(32, 21, 12)
	do(t, f, step(api.StepLose, 0, -1))
	air(32, 21)
	do(t, f, step(api.StepOut, 1, 2), step(api.StepOut, 3, 2))
	air(32, 21, 12, 32)
	do(t, f, step(api.StepLose, 0, -7))
	air(32, 12, 32)
	do(t, f, step(api.StepDeliver, 0, math.MinInt+1), step(api.StepCrash, 2, 0)) // -(2^63 - 1) leaves -1, divided by 3
	air(32, 12)
	answers(t, f, step(api.StepDouble, 0, math.MaxInt), api.ErrState) // 2^63 - 1 leaves 1, divided by 2
	air(32, 12)
	answers(t, f, step(api.StepDeliver, 0, -1), api.ErrState)
	air(32)
	do(t, f, step(api.StepLose, 0, 0))
	for _, kind := range []int{api.StepDeliver, api.StepDouble, api.StepLose} {
		answers(t, f, step(kind, 0, 0), api.ErrMissing)
	}
	do(t, f, step(api.StepRestart, 2, 0), step(api.StepOut, 2, 3), step(api.StepMove, 3, 1))
	answers(t, f, step(api.StepDeliver, 0, 0), api.ErrMissing) // 3 has no edge to 2 any more
	air()
}

// P28.2: the air has room for 1,000 frames; what has no room is lost.
func TestFullAir(t *testing.T) {
	f := three(t)
	do(t, f, write(3, "f", make([]byte, 900)...), step(api.StepScan, 3, 0), step(api.StepOut, 2, 3), step(api.StepDeliver, 0, 0))
	do(t, f, step(api.StepOut, 3, 2))
	n := len(f.Air())
	if n < 2 {
		t.Fatal(n)
	}
	for len(f.Air()) < 999 {
		do(t, f, step(api.StepOut, 1, 2))
	}
	for range 4 {
		do(t, f, step(api.StepTick, 3, 0))
	}
	answers(t, f, step(api.StepOut, 3, 2), api.ErrFull)
	if air := f.Air(); len(air) != 1000 || air[999].From != 3 {
		t.Error(len(air))
	}
	answers(t, f, step(api.StepOut, 1, 2), api.ErrFull)
	do(t, f, step(api.StepOut, 3, 2)) // nothing goes out now
	if len(f.Air()) != 1000 {
		t.Error(len(f.Air()))
	}
	do(t, f, step(api.StepLose, 0, 0), step(api.StepOut, 1, 2))
}

// P28.2: fuses and crashes are those of the node's disk.
func TestDisk(t *testing.T) {
	f := three(t)
	answers(t, f, step(api.StepFuse, 3, -1), api.ErrArg)
	do(t, f, step(api.StepFuse, 3, 1), write(3, "f", 7))
	answers(t, f, step(api.StepScan, 3, 0), api.ErrBroken)
	answers(t, f, step(api.StepTick, 3, 0), api.ErrBroken)
	answers(t, f, step(api.StepFuse, 3, 5), api.ErrBroken)
	if !f.Up(3) || f.Node(3).Seq != 0 {
		t.Error(f.Node(3))
	}
	answers(t, f, step(api.StepRestart, 3, 0), api.ErrState)
	do(t, f, api.Step{Kind: api.StepCrash, N: 3, Keep: []int{10000}}, step(api.StepFuse, 3, 0))
	answers(t, f, step(api.StepRestart, 3, 0), api.ErrBroken)
	if f.Up(3) {
		t.Error("up")
	}
	do(t, f, step(api.StepCrash, 3, 0), step(api.StepCrash, 3, 0), step(api.StepRestart, 3, 0))
	if n := f.Node(3); n.Seq != 1 || len(n.Store) != 1 {
		t.Error(n) // what was recorded was kept by the crash
	}
	answers(t, f, step(api.StepScan, 3, 0), api.ErrMissing)
	do(t, f, write(3, "f", 8), step(api.StepFuse, 3, 1))
	answers(t, f, step(api.StepScan, 3, 0), api.ErrBroken)
	do(t, f, api.Step{Kind: api.StepCrash, N: 3, Keep: []int{-4}}, step(api.StepRestart, 3, 0))
	if n := f.Node(3); n.Seq != 1 {
		t.Error(n)
	}
	do(t, f, step(api.StepScan, 3, 0))
}

// P28.2: a peer of a fleet is as one that is opened by hand.
func TestLikePeer(t *testing.T) {
	f := three(t)
	d, _ := disk.New(api.DiskRoom)
	fs := vfs.New()
	p, err := peer.Open(d, fs, 3, api.KindLaptop, 1000)
	if err != api.OK || p.Link(2) != api.OK {
		t.Fatal(err)
	}
	for _, at := range []string{"a", "b"} {
		fs.Write(at, 0, make([]byte, 500))
		do(t, f, write(3, at, make([]byte, 500)...), step(api.StepScan, 3, 0))
		p.Scan()
	}
	x, y := p.Node(), f.Node(3)
	if x.Seq != y.Seq || x.Epoch != y.Epoch || !slices.EqualFunc(x.Store, y.Store, event.Same) {
		t.Error(x, y)
	}
}

// any tells some step of a fleet of some five nodes.
func any(rnd *rand.Rand, n int) api.Step {
	paths := []string{"d", "d/f", "d/g", "e", "e/f"}
	s := api.Step{Kind: 1 + rnd.Intn(21), N: 1 + rnd.Intn(n), At: 1 + rnd.Intn(n), Path: paths[rnd.Intn(5)], To: paths[rnd.Intn(5)], Effect: []api.Effect{dir, file(byte(rnd.Intn(3))), {Kind: api.KindGone}}[rnd.Intn(3)]}
	switch s.Kind {
	case api.StepEnrol, api.StepKill, api.StepMove:
		if rnd.Intn(8) > 0 {
			s.Kind = api.StepScan
		} else if s.Kind == api.StepEnrol {
			s.N = 2 + rnd.Intn(2)
		}
	case api.StepFuse:
		s.At = rnd.Intn(20)
		if rnd.Intn(4) > 0 {
			s.Kind = api.StepInstall
		}
	case api.StepCrash:
		s.Keep = []int{rnd.Intn(60), rnd.Intn(60), rnd.Intn(60)}
		if rnd.Intn(2) > 0 {
			s.Kind = api.StepAbsorb
		}
	case api.StepLose:
		s.Kind = []int{api.StepOut, api.StepDeliver, api.StepLose}[rnd.Intn(3)]
	}
	return s
}

// follows tells whether all that one store has is in another one, or followed there.
func follows(now, was []api.Event) bool {
	joined, err := store.Join(now, was)
	return err == api.OK && slices.EqualFunc(joined, now, event.Same)
}

// P28.3, P28.4, P28.5: what was answered as done is there behind a crash; a dead node is dead for good; frames are between nodes that were neighbours once.
func TestWhatFollows(t *testing.T) {
	rnd := rand.New(rand.NewSource(1))
	restarts, flew := 0, 0
	for range 60 {
		f := three(t)
		do(t, f, step(api.StepEnrol, api.KindLaptop, 1))
		last := map[int]api.Node{}
		near := map[[2]int]bool{}
		for range 400 {
			for n, m := range f.Members() {
				near[[2]int{n + 1, m.Up}], near[[2]int{m.Up, n + 1}] = true, true
			}
			was := f.Members()
			s := any(rnd, len(was))
			up := f.Up(s.N)
			err := f.Do(s)
			now := f.Members()
			if err != api.OK && s.Kind <= api.StepMove && !slices.Equal(was, now) {
				t.Fatal(s, err)
			}
			for i, m := range was {
				if m.Dead && !now[i].Dead || now[i].Dead && f.Up(i+1) || topo.Check(now) != api.OK {
					t.Fatal(s, was, now)
				}
			}
			if s.Kind == api.StepRestart && err == api.OK {
				restarts++
				if n := f.Node(s.N); n.Seq < last[s.N].Seq || n.Seq > last[s.N].Seq+1 || !follows(n.Store, last[s.N].Store) || n.Epoch <= last[s.N].Epoch || up {
					t.Fatal(last[s.N], n)
				}
			}
			for n := range now {
				if f.Up(n + 1) {
					last[n+1] = f.Node(n + 1)
				}
			}
			for n, m := range now {
				near[[2]int{n + 1, m.Up}], near[[2]int{m.Up, n + 1}] = true, true
			}
			for _, x := range f.Air() {
				flew++
				if !near[[2]int{x.From, x.To}] {
					t.Fatal(x)
				}
			}
		}
	}
	if restarts < 200 || flew < 500 {
		t.Error("too few:", restarts, flew)
	}
}

// What is told is new memory.
func TestMemory(t *testing.T) {
	f := three(t)
	b := []byte{7}
	keep := []int{1, 2}
	do(t, f, write(3, "f", b...), step(api.StepScan, 3, 0), step(api.StepOut, 3, 2), api.Step{Kind: api.StepCrash, N: 1, Keep: keep})
	m, tree, air, n := f.Members(), f.Tree(3), f.Air(), f.Node(3)
	m[0].Kind, tree[0].Effect.Bytes[0], air[0].Raw[0], n.Store[0].Path = 9, 9, 9, "x"
	_ = append(m, api.Member{})
	if f.Members()[0].Kind != 1 || f.Air()[0].Raw[0] == 9 || f.Node(3).Store[0].Path != "f" || keep[1] != 2 {
		t.Error("shared")
	}
	if diff, _ := table.Diff(f.Tree(3), []api.Entry{{Path: "f", Effect: file(7)}}); len(diff) > 0 {
		t.Error(diff)
	}
}
