package install

import (
	"tributary/api"
	"tributary/effect"
	"tributary/shown"
	"tributary/vfs"
)

// outcome is what became of an intent.
type outcome int

const (
	done outcome = iota
	again
	lost
)

// number tells an outcome's number.
func (o outcome) number() int {
	switch o {
	case done:
		return api.RecoverDone
	case again:
		return api.RecoverAgain
	}
	return api.RecoverLost
}

// Recover tells what became of an intent.
func Recover(f *vfs.FS, l []api.Shown, x api.Intent) (int, api.Errno) {
	if isNone(f) {
		return 0, api.ErrNil
	}
	if shown.Check(l) != api.OK || Check(x) != api.OK {
		return 0, api.ErrArg
	}
	return became(f, x).number(), api.OK
}

func became(f *vfs.FS, x api.Intent) outcome {
	switch {
	case effect.Same(has(f, x.Path), x.Effect):
		return done
	case f.Stamp(x.Path) == x.Stamp:
		return again
	}
	return lost
}

// has tells what the user has at a path.
func has(f *vfs.FS, at string) api.Effect {
	for _, x := range f.Tree() {
		if x.Path == at {
			return x.Effect
		}
	}
	return api.Effect{Kind: api.KindGone}
}
