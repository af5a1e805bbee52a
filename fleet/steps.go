package fleet

import (
	"slices"

	"tributary/api"
	"tributary/topo"
)

const kinds = api.StepRestart + 1

// doers tells how steps are done, by their kinds.
func doers() [kinds]func(*Fleet, api.Step) api.Errno {
	return [kinds]func(*Fleet, api.Step) api.Errno{
		api.StepEnrol:   (*Fleet).enrol,
		api.StepKill:    (*Fleet).kill,
		api.StepMove:    (*Fleet).move,
		api.StepWrite:   (*Fleet).user,
		api.StepMkdir:   (*Fleet).user,
		api.StepChmod:   (*Fleet).user,
		api.StepRemove:  (*Fleet).user,
		api.StepRename:  (*Fleet).user,
		api.StepScan:    (*Fleet).work,
		api.StepInstall: (*Fleet).work,
		api.StepAbsorb:  (*Fleet).work,
		api.StepTick:    (*Fleet).work,
		api.StepOut:     (*Fleet).out,
		api.StepDeliver: (*Fleet).land,
		api.StepDouble:  (*Fleet).land,
		api.StepLose:    (*Fleet).land,
		api.StepReport:  (*Fleet).work,
		api.StepResolve: (*Fleet).work,
		api.StepFuse:    (*Fleet).fuse,
		api.StepCrash:   (*Fleet).crash,
		api.StepRestart: (*Fleet).restart,
	}
}

// ofNode tells whether a step is one of the node that it names.
func ofNode(kind int) bool {
	return kind != api.StepEnrol && kind != api.StepDeliver && kind != api.StepDouble && kind != api.StepLose
}

// Do does a step.
func (f *Fleet) Do(s api.Step) api.Errno {
	switch {
	case !f.made():
		return api.ErrNil
	case s.Kind < api.StepEnrol || s.Kind >= kinds:
		return api.ErrArg
	case ofNode(s.Kind) && !f.has(s.N):
		return api.ErrArg
	case ofNode(s.Kind) && f.members[s.N-1].Dead:
		return api.ErrDead
	}
	return doers()[s.Kind](f, s)
}

func (f *Fleet) enrol(s api.Step) api.Errno {
	t, number, err := topo.Enrol(f.members, s.N, s.At)
	if err != api.OK {
		return err
	}
	u, err := f.unit(number, s.N)
	if err != api.OK {
		return err
	}
	f.members, f.units = t, append(f.units, u)
	f.tidy(number)
	f.tidy(s.At)
	return api.OK
}

func (f *Fleet) kill(s api.Step) api.Errno {
	t, err := topo.Kill(f.members, s.N)
	if err != api.OK {
		return err
	}
	f.members, f.units[s.N-1].Peer = t, nil
	f.tidyAll()
	return api.OK
}

func (f *Fleet) move(s api.Step) api.Errno {
	t, err := topo.Move(f.members, s.N, s.At)
	if err != api.OK {
		return err
	}
	f.members = t
	f.tidyAll()
	return api.OK
}

// user does what a node's user does.
func (f *Fleet) user(s api.Step) api.Errno {
	fs := f.units[s.N-1].fs
	if fs == nil {
		return api.ErrState
	}
	switch s.Kind {
	case api.StepWrite:
		return fs.Write(s.Path, s.Effect.Mode, s.Effect.Bytes)
	case api.StepMkdir:
		return fs.Mkdir(s.Path, s.Effect.Mode)
	case api.StepChmod:
		return fs.Chmod(s.Path, s.Effect.Mode)
	case api.StepRemove:
		return fs.Remove(s.Path)
	}
	return fs.Rename(s.Path, s.To)
}

// work does what a node's peer does.
func (f *Fleet) work(s api.Step) api.Errno {
	u := f.units[s.N-1]
	if !f.isUp(s.N) {
		return api.ErrState
	}
	switch s.Kind {
	case api.StepScan:
		return u.Scan()
	case api.StepInstall:
		return u.Install()
	case api.StepAbsorb:
		return u.Absorb()
	case api.StepTick:
		return u.Tick()
	case api.StepReport:
		return u.Report(s.At)
	}
	return u.Resolve(s.Path, s.Effect)
}

// out lets into the air what goes out over an edge.
func (f *Fleet) out(s api.Step) api.Errno {
	if !f.isUp(s.N) {
		return api.ErrState
	}
	l, err := f.units[s.N-1].Out(s.At)
	if err != api.OK {
		return err
	}
	for _, raw := range l {
		if len(f.air) == api.MaxAir {
			return api.ErrFull
		}
		f.air = append(f.air, api.Air{From: s.N, To: s.At, Raw: raw})
		f.flew.Add(1)
	}
	return api.OK
}

// land lets a frame that is in the air come down, or be lost.
func (f *Fleet) land(s api.Step) api.Errno {
	n := len(f.air)
	if n == 0 {
		return api.ErrMissing
	}
	at := (s.At%n + n) % n
	x := f.air[at]
	if s.Kind != api.StepDouble {
		f.air = slices.Delete(f.air, at, at+1)
	}
	if s.Kind == api.StepLose {
		return api.OK
	}
	if !f.isUp(x.To) {
		return api.ErrState
	}
	return f.units[x.To-1].Receive(x.From, x.Raw)
}

func (f *Fleet) fuse(s api.Step) api.Errno { return f.units[s.N-1].disk.Fuse(s.At) }

func (f *Fleet) crash(s api.Step) api.Errno {
	f.units[s.N-1].Peer = nil
	return f.units[s.N-1].disk.Crash(s.Keep)
}

func (f *Fleet) restart(s api.Step) api.Errno {
	if f.isUp(s.N) {
		return api.ErrState
	}
	if err := f.start(f.units[s.N-1], s.N, f.members[s.N-1].Kind); err != api.OK {
		return err
	}
	f.tidy(s.N)
	return api.OK
}
