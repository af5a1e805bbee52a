package match_test

import (
	"math/rand"
	"testing"

	"tributary/api"
	"tributary/fleet"
	"tributary/match"
)

// any tells some step of a fleet of so many nodes; most of them let something go on.
func any(rnd *rand.Rand, n int) api.Step {
	paths := []string{"d", "d/f", "d/g", "e", "e/f"}
	effects := []api.Effect{dir, file(byte(rnd.Intn(3))), {Kind: api.KindGone}}
	s := api.Step{Kind: 1 + rnd.Intn(21), N: 1 + rnd.Intn(n), At: 1 + rnd.Intn(n), Path: paths[rnd.Intn(5)], To: paths[rnd.Intn(5)], Effect: effects[rnd.Intn(3)]}
	switch s.Kind {
	case api.StepEnrol, api.StepKill, api.StepMove:
		if rnd.Intn(8) > 0 || s.Kind == api.StepEnrol && n > 6 {
			s.Kind = api.StepScan
		} else if s.Kind == api.StepEnrol {
			s.N = 2 + rnd.Intn(2)
		}
	case api.StepFuse:
		s.At = rnd.Intn(20)
		if rnd.Intn(4) > 0 {
			s.Kind = api.StepInstall
		}
	case api.StepCrash:
		s.Keep = []int{rnd.Intn(60), rnd.Intn(60), rnd.Intn(60)}
		if rnd.Intn(2) > 0 {
			s.Kind = api.StepAbsorb
		}
	case api.StepLose:
		s.Kind = []int{api.StepOut, api.StepDeliver, api.StepLose}[rnd.Intn(3)]
	}
	return s
}

// carried tells a step that carries something over some edge, if it can.
func carried(rnd *rand.Rand, f *fleet.Fleet) api.Step {
	n := 1 + rnd.Intn(len(f.Members()))
	if f.Do(api.Step{Kind: api.StepTick, N: n}) == api.ErrBroken {
		return api.Step{Kind: api.StepCrash, N: n, Keep: []int{rnd.Intn(100), rnd.Intn(100)}}
	}
	if !f.Up(n) {
		return api.Step{Kind: api.StepRestart, N: n}
	}
	if peers := f.Node(n).Peers; len(peers) > 0 && rnd.Intn(2) == 0 {
		return api.Step{Kind: api.StepOut, N: n, At: peers[rnd.Intn(len(peers))].Node}
	}
	return api.Step{Kind: api.StepDeliver}
}

// P30.4, P30.5: behind each step of a fleet each node that is up can be followed, by at most one move for all of them.
func TestFleet(t *testing.T) {
	rnd := rand.New(rand.NewSource(1))
	moved := 0
	for range 10 {
		f, err := fleet.New(1000)
		if err != api.OK {
			t.Fatal(err)
		}
		s := match.New()
		begin := []api.Step{{Kind: api.StepEnrol, N: api.KindGateway, At: 1}, {Kind: api.StepEnrol, N: api.KindLaptop, At: 2}, {Kind: api.StepEnrol, N: api.KindLaptop, At: 1}}
		for i := range 1000 {
			x := any(rnd, len(f.Members()))
			if rnd.Intn(2) > 0 {
				x = carried(rnd, f)
			}
			if i < len(begin) {
				x = begin[i]
			}
			err := f.Do(x)
			if x.Kind == api.StepEnrol && err == api.OK {
				s = enrolled(t, s, x.N)
			}
			moves := 0
			for n := 1; n <= len(f.Members()); n++ {
				if !f.Up(n) {
					continue
				}
				out, some, err := match.Follow(s, f.Node(n))
				if err != api.OK {
					t.Fatal(i, x, n, err)
				}
				s, moves = out, moves+some
			}
			if moves > 1 {
				t.Fatal(i, x, moves)
			}
			moved += moves
		}
		if match.Check(s) != api.OK {
			t.Fatal("the shadow may not be")
		}
	}
	if moved < 120 {
		t.Error("too few:", moved)
	}
}
