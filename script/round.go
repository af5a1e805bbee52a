package script

import (
	"tributary/api"
	"tributary/fleet"
	"tributary/topo"
)

const (
	root        = 1
	moreTicks   = 3
	timesOut    = 2
	mostReports = 10000
)

// round is a fair round of a fleet.
type round struct {
	fleet *fleet.Fleet
	kinds []api.Member
	live  []int
	err   api.Errno
}

// isNone tells whether nobody made a fleet: one that is none refuses all; any other one knows no such kind of step.
func isNone(f *fleet.Fleet) bool { return f.Do(api.Step{}) == api.ErrNil }

// do does a step of a node, and tells whether it came to something.
func (r *round) do(kind, n, at int) bool {
	return r.fleet.Do(api.Step{Kind: kind, N: n, At: at}) == api.OK
}

// begin looks who is live, if there is a fleet.
func (r *round) begin() bool {
	if isNone(r.fleet) {
		r.err = api.ErrNil
		return false
	}
	r.kinds = r.fleet.Members()
	r.live = topo.Live(r.kinds)
	return true
}

// wake starts anew who is down, or has a broken journal.
func (r *round) wake() bool {
	for _, n := range r.live {
		if !r.fleet.Up(n) || r.fleet.Do(api.Step{Kind: api.StepTick, N: n}) == api.ErrBroken {
			r.do(api.StepCrash, n, 0)
			r.do(api.StepRestart, n, 0)
		}
	}
	return true
}

// up hands on who is live and up.
func (r *round) up(yield func(n int) bool) {
	for _, n := range r.live {
		if r.fleet.Up(n) && !yield(n) {
			return
		}
	}
}

// tick lets ticks go by.
func (r *round) tick() bool {
	for range moreTicks {
		for n := range r.up {
			r.do(api.StepTick, n, 0)
		}
	}
	return true
}

// carry lets all go out that does, and come down.
func (r *round) carry() bool {
	for range timesOut {
		for n := range r.up {
			for _, a := range r.fleet.Node(n).Peers {
				r.do(api.StepOut, n, a.Node)
			}
		}
		for range len(r.fleet.Air()) { // none comes to what is there, and each step takes one away
			r.do(api.StepDeliver, 0, 0)
		}
	}
	return true
}

// work lets each node do all that it can.
func (r *round) work() bool {
	for n := range r.up {
		kinds := []int{api.StepAbsorb}
		if r.kinds[n-1].Kind == api.KindLaptop {
			kinds = append(kinds, api.StepScan, api.StepInstall)
		}
		for _, kind := range kinds {
			for r.do(kind, n, 0) {
			}
		}
	}
	return true
}

// report lets the root report.
func (r *round) report() bool { return r.do(api.StepReport, root, mostReports) }

// Round does a fair round.
func Round(f *fleet.Fleet) api.Errno {
	r := &round{fleet: f}
parts:
	for _, part := range []func() bool{r.begin, r.wake, r.tick, r.carry, r.work, r.report} {
		if !part() {
			break parts
		}
	}
	return r.err
}

// Bound tells how many fair rounds are enough.
func Bound(f *fleet.Fleet) int {
	if isNone(f) {
		return 0
	}
	n := len(f.Members())
	much := 3
	for i := range n {
		x := f.Node(i + 1)
		much += len(x.Store) + len(x.Shown) + len(f.Tree(i+1))
	}
	return 8 + 4*n*much
}
