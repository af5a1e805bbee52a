package vfs

import (
	"testing"

	"tributary/api"
)

// A clock at its end lets nothing be done; but nobody can bring it there by calls, so it is set here.
func TestLastClock(t *testing.T) {
	f := New()
	f.Mkdir("a", 0)
	f.clock = api.MaxClock - 1
	if err := f.Write("b", 0, nil); err != api.OK || f.Stamp("b") != api.MaxClock {
		t.Error(err, f.Stamp("b"))
	}
	for i, err := range []api.Errno{f.Write("?", -1, nil), f.Mkdir("a", 0), f.Chmod("x", 0), f.Remove("a"), f.Rename("a", "b"), f.Swap("?", api.Effect{}, 9), f.Swap("x", api.Effect{Kind: api.KindGone}, 0)} {
		if err != api.ErrFull {
			t.Error(i, err)
		}
	}
	if len(f.Tree()) != 2 || f.Clock() != api.MaxClock {
		t.Error(f.Tree())
	}
}
