package script_test

import (
	"math/rand"
	"slices"
	"testing"

	"tributary/api"
	"tributary/clash"
	"tributary/effect"
	"tributary/fleet"
	"tributary/ledger"
	"tributary/script"
	"tributary/shown"
	"tributary/store"
	"tributary/table"
	"tributary/topo"
)

// any tells some step of a fleet of so many nodes.
func any(rnd *rand.Rand, n int) api.Step {
	paths := []string{"d", "d/f", "d/g", "e", "e/f", "e/f/g"}
	effects := []api.Effect{dir, file(byte(rnd.Intn(3))), {Kind: api.KindGone}}
	s := api.Step{Kind: 1 + rnd.Intn(21), N: 1 + rnd.Intn(n), At: 1 + rnd.Intn(n), Path: paths[rnd.Intn(6)], To: paths[rnd.Intn(6)], Effect: effects[rnd.Intn(3)]}
	switch s.Kind {
	case api.StepEnrol, api.StepKill, api.StepMove:
		if rnd.Intn(8) > 0 || s.Kind == api.StepEnrol && n > 7 {
			s.Kind = api.StepScan
		} else if s.Kind == api.StepEnrol {
			s.N = 2 + rnd.Intn(2)
		}
	case api.StepFuse:
		s.At = rnd.Intn(20)
		if rnd.Intn(4) > 0 {
			s.Kind = api.StepInstall
		}
	case api.StepCrash:
		s.Keep = []int{rnd.Intn(60), rnd.Intn(60), rnd.Intn(60)}
		if rnd.Intn(2) > 0 {
			s.Kind = api.StepAbsorb
		}
	case api.StepResolve:
		if rnd.Intn(4) > 0 {
			s.Kind = api.StepWrite
		}
	case api.StepLose:
		s.Kind = []int{api.StepOut, api.StepDeliver, api.StepLose}[rnd.Intn(3)]
	}
	return s
}

// carried tells a step that carries something over some edge, or brings a node up again.
func carried(rnd *rand.Rand, f *fleet.Fleet, do func(s api.Step) api.Errno) api.Step {
	n := 1 + rnd.Intn(len(f.Members()))
	if do(api.Step{Kind: api.StepTick, N: n}) == api.ErrBroken {
		return api.Step{Kind: api.StepCrash, N: n, Keep: []int{rnd.Intn(100), rnd.Intn(100)}}
	}
	if !f.Up(n) {
		return api.Step{Kind: api.StepRestart, N: n}
	}
	if peers := f.Node(n).Peers; len(peers) > 0 && rnd.Intn(2) == 0 {
		return api.Step{Kind: api.StepOut, N: n, At: peers[rnd.Intn(len(peers))].Node}
	}
	return api.Step{Kind: api.StepDeliver}
}

func begin(t *testing.T, quota int) *fleet.Fleet {
	t.Helper()
	f, err := fleet.New(quota)
	if err != api.OK {
		t.Fatal(err)
	}
	for i, err := range script.Run(f, []api.Step{{Kind: api.StepEnrol, N: api.KindGateway, At: 1}, {Kind: api.StepEnrol, N: api.KindLaptop, At: 2}, {Kind: api.StepEnrol, N: api.KindLaptop, At: 1}, {Kind: api.StepEnrol, N: api.KindGateway, At: 2}, {Kind: api.StepEnrol, N: api.KindLaptop, At: 5}}) {
		if err != api.OK {
			t.Fatal(i, err)
		}
	}
	return f
}

// calm lets no fuse be left, and all live nodes be up.
func calm(t *testing.T, f *fleet.Fleet) {
	t.Helper()
	for i, m := range f.Members() {
		if m.Dead {
			continue
		}
		f.Do(api.Step{Kind: api.StepCrash, N: i + 1})
		if err := f.Do(api.Step{Kind: api.StepRestart, N: i + 1}); err != api.OK {
			t.Fatal(i+1, err)
		}
	}
}

// scanRefuses tells whether some live laptop has a change that can't be scanned, when all others are.
func scanRefuses(f *fleet.Fleet) bool {
	for _, n := range topo.Live(f.Members()) {
		err := api.OK
		for err == api.OK {
			err = f.Do(api.Step{Kind: api.StepScan, N: n})
		}
		if err == api.ErrLong {
			return true
		}
	}
	return false
}

// settle does fair rounds till all is settled, at most as many as are enough.
func settle(t *testing.T, f *fleet.Fleet) int {
	t.Helper()
	bound := script.Bound(f)
	for i := range bound + 1 {
		if script.Settled(f) {
			return i
		}
		if err := script.Round(f); err != api.OK {
			t.Fatal(err)
		}
	}
	t.Fatal("not settled behind so many rounds: ", bound)
	return 0
}

// busy lets a fleet do many steps, each by do.
func busy(rnd *rand.Rand, f *fleet.Fleet, quota, steps int, do func(s api.Step) api.Errno) {
	for range steps {
		s := any(rnd, len(f.Members()))
		if s.Kind == api.StepWrite && rnd.Intn(4) == 0 {
			s.Effect.Bytes = make([]byte, rnd.Intn(min(quota-60, 1000)))
		}
		if rnd.Intn(3) > 0 {
			s = carried(rnd, f, do)
		}
		do(s)
	}
}

// P31.4, P31.5, P31.7: whatever was done, behind fair rounds all is settled; if nothing clashes, all laptops have one tree.
func TestItSettles(t *testing.T) {
	rnd := rand.New(rand.NewSource(1))
	trees, clashes, most := 0, 0, 0
	for range 200 {
		quota := []int{100, 150, 300, 1000, 60000}[rnd.Intn(5)]
		f := begin(t, quota)
		busy(rnd, f, quota, rnd.Intn(1000), f.Do)
		calm(t, f)
		if scanRefuses(f) {
			continue
		}
		most = max(most, settle(t, f))
		s := f.Node(1).Store
		for _, c := range clash.All(s) {
			if clashes++; !ledger.Has(f.Node(1).Reports, c) {
				t.Fatal(c)
			}
		}
		want, is := treeOf(s)
		if !clash.Free(s) || !is {
			continue
		}
		trees++
		for _, n := range topo.Live(f.Members()) {
			if f.Members()[n-1].Kind == api.KindLaptop {
				if diff, err := table.Diff(f.Tree(n), want); err != api.OK || len(diff) > 0 {
					t.Fatal(n, f.Tree(n), want)
				}
			}
		}
	}
	if trees < 50 || clashes < 50 || most < 4 {
		t.Error("too few:", trees, clashes, most)
	}
}

// treeOf tells the effects of events but Gone, and whether they are a tree.
func treeOf(s []api.Event) ([]api.Entry, bool) {
	var out []api.Entry
	for _, at := range store.Paths(s) {
		if e := store.Shelf(s, at)[0].Effect; e.Kind != api.KindGone {
			out = append(out, api.Entry{Path: at, Effect: e})
		}
	}
	return out, table.Check(out) == api.OK
}

// shownAt tells what is shown at a path, and what the user has there.
func shownAt(x api.Node, tree []api.Entry, at string) (api.Effect, api.Effect) {
	none := api.Effect{Kind: api.KindGone}
	is, has := none, none
	if s, ok := shown.Get(x.Shown, at); ok {
		is = s.Effect
	}
	if e, ok := table.Get(tree, at); ok {
		has = e
	}
	return is, has
}

// P31.6: no step but a user's own changes what a user has at a path, if that is not what was shown there.
func TestNobodysWorkIsLost(t *testing.T) {
	rnd := rand.New(rand.NewSource(2))
	own := []int{api.StepWrite, api.StepMkdir, api.StepChmod, api.StepRemove, api.StepRename}
	kept, changed := 0, 0
	for range 60 {
		f := begin(t, 1000)
		last := map[int]api.Node{}
		do := func(s api.Step) api.Errno {
			trees := map[int][]api.Entry{}
			for n := range f.Members() {
				trees[n+1] = f.Tree(n + 1)
				if f.Up(n + 1) {
					last[n+1] = f.Node(n + 1)
				}
			}
			err := f.Do(s)
			for n, was := range trees {
				if n == s.N && slices.Contains(own, s.Kind) {
					continue
				}
				diff, _ := table.Diff(was, f.Tree(n))
				for _, x := range diff {
					if is, has := shownAt(last[n], was, x.Path); !effect.Same(is, has) || s.Kind != api.StepInstall {
						t.Fatal(s, n, x)
					}
					changed++
				}
				for _, x := range was {
					if is, has := shownAt(last[n], was, x.Path); !effect.Same(is, has) {
						kept++
					}
				}
			}
			return err
		}
		for range 8 {
			busy(rnd, f, 1000, 80, do)
			byHand(f, do)
		}
	}
	if kept < 1000 || changed < 100 {
		t.Error("too few:", kept, changed)
	}
}

// P31.7: no clash is reported twice, each is one of events that were there; and behind an operator's word none at its path is reported any more.
func TestReports(t *testing.T) {
	rnd := rand.New(rand.NewSource(3))
	reported, spoken := 0, 0
	for range 80 {
		f := begin(t, 1000)
		events := map[api.Dot]api.Event{}
		over := map[api.Dot]int{} // how many reports there were when an operator spoke of the event's path
		var reports []api.Report
		look := func(s api.Step) api.Errno {
			was := f.Node(1)
			err := f.Do(s)
			now := f.Node(1)
			if !f.Up(1) {
				return err
			}
			for _, e := range now.Store {
				events[e.Dot] = e
			}
			if s.Kind == api.StepResolve && err == api.OK {
				spoken++
				for _, e := range was.Store {
					if e.Path == s.Path {
						over[e.Dot] = len(now.Reports)
					}
				}
			}
			if len(now.Reports) < len(reports) || !slices.Equal(now.Reports[:len(reports)], reports) || ledger.Check(now.Reports) != api.OK {
				t.Fatal(reports, now.Reports)
			}
			for i, r := range now.Reports[len(reports):] {
				a, isA := events[r.Clash.A]
				b, isB := events[r.Clash.B]
				if !isA || !isB || !clash.Clash(a, b) {
					t.Fatal(r)
				}
				for _, d := range []api.Dot{r.Clash.A, r.Clash.B} {
					if n, is := over[d]; is && len(reports)+i >= n {
						t.Fatal(r, n)
					}
				}
				reported++
			}
			reports = now.Reports
			return err
		}
		for range 8 {
			busy(rnd, f, 1000, 100, look)
			for range 3 {
				byHand(f, look)
			}
			for _, r := range ledger.Open(f.Node(1).Reports, f.Node(1).Store) {
				if rnd.Intn(2) == 0 {
					look(api.Step{Kind: api.StepResolve, N: 1, Path: events[r.Clash.A].Path, Effect: dir})
				}
			}
		}
	}
	if reported < 80 || spoken < 80 {
		t.Error("too few:", reported, spoken)
	}
}
