package vfs_test

import (
	"math/rand"
	"slices"
	"strings"
	"testing"

	"tributary/api"
	"tributary/effect"
	"tributary/path"
	"tributary/table"
	"tributary/vfs"
)

func file(mode int, b ...byte) api.Effect {
	return api.Effect{Kind: api.KindFile, Mode: mode, Bytes: b}
}

var (
	gone = api.Effect{Kind: api.KindGone}
	dir  = api.Effect{Kind: api.KindDir}
)

// text tells a file system: of each path its kind, mode, bytes and stamp; and the clock.
func text(f *vfs.FS) string {
	var l []string
	num := func(n int) string { return string(rune('0' + n)) }
	for _, x := range f.Tree() {
		s := x.Path + ":" + num(x.Effect.Kind) + num(x.Effect.Mode)
		for _, b := range x.Effect.Bytes {
			s += "," + num(int(b))
		}
		l = append(l, s+"@"+num(f.Stamp(x.Path)))
	}
	return strings.Join(l, " ") + " " + num(f.Clock())
}

// sample is the chapter's: a Dir, a/b a File 7.
func sample() *vfs.FS {
	f := vfs.New()
	f.Mkdir("a", 0)
	f.Write("a/b", 0, []byte{7})
	return f
}

// P13.1: nothing at first; and what is told of none.
func TestNone(t *testing.T) {
	if got := text(vfs.New()); got != " 0" || vfs.New().Stamp("a") != 0 {
		t.Error(got)
	}
	copied := *sample()
	for i, f := range []*vfs.FS{nil, {}, &copied} {
		for j, err := range []api.Errno{f.Write("x", 0, nil), f.Mkdir("x", 0), f.Chmod("a", 0), f.Remove("a"), f.Rename("a", "b"), f.Swap("a/b", gone, 2), f.Swap("", gone, 2)} {
			if err != api.ErrNil {
				t.Error(i, j, err)
			}
		}
		if len(f.Tree()) > 0 || f.Stamp("a") != 0 || f.Clock() != 0 {
			t.Error(i)
		}
	}
}

// P13.1, P13.2, P13.3, P13.4: one call behind the other, and what there is then.
func TestCalls(t *testing.T) {
	f := sample()
	for i, x := range []struct {
		got  func() api.Errno
		err  api.Errno
		want string
	}{
		{func() api.Errno { return api.OK }, api.OK, "a:20@1 a/b:10,7@2 2"},
		{func() api.Errno { return f.Rename("a", "c") }, api.OK, "c:20@3 c/b:10,7@3 3"},
		{func() api.Errno { return f.Write("c", 0, []byte{1}) }, api.ErrKind, "c:20@3 c/b:10,7@3 3"},
		{func() api.Errno { return f.Mkdir("c", 0) }, api.ErrExists, "c:20@3 c/b:10,7@3 3"},
		{func() api.Errno { return f.Chmod("x", 0) }, api.ErrMissing, "c:20@3 c/b:10,7@3 3"},
		{func() api.Errno { return f.Remove("x") }, api.ErrMissing, "c:20@3 c/b:10,7@3 3"},
		{func() api.Errno { return f.Write("x/y", 0, []byte{1}) }, api.ErrMissing, "c:20@3 c/b:10,7@3 3"},
		{func() api.Errno { return f.Swap("c/b", file(0, 9), 2) }, api.ErrBusy, "c:20@3 c/b:10,7@3 3"},
		{func() api.Errno { return f.Swap("c/b", file(0, 9), 3) }, api.OK, "c:20@3 c/b:10,9@4 4"},
		{func() api.Errno { return f.Swap("c", gone, 3) }, api.ErrKind, "c:20@3 c/b:10,9@4 4"},
		{func() api.Errno { return f.Swap("d", gone, 0) }, api.OK, "c:20@3 c/b:10,9@4 4"},
		{func() api.Errno { return f.Swap("d", gone, 1) }, api.ErrBusy, "c:20@3 c/b:10,9@4 4"},
		{func() api.Errno { return f.Swap("d", dir, 0) }, api.OK, "c:20@3 c/b:10,9@4 d:20@5 5"},
		{func() api.Errno { return f.Swap("d", file(1), 5) }, api.OK, "c:20@3 c/b:10,9@4 d:11@6 6"},
		{func() api.Errno { return f.Swap("d/e", file(1), 0) }, api.ErrKind, "c:20@3 c/b:10,9@4 d:11@6 6"},
		{func() api.Errno { return f.Swap("x/e", file(1), 0) }, api.ErrMissing, "c:20@3 c/b:10,9@4 d:11@6 6"},
		{func() api.Errno { return f.Swap("c", file(1), 3) }, api.ErrKind, "c:20@3 c/b:10,9@4 d:11@6 6"},
		{func() api.Errno { return f.Swap("c", api.Effect{Kind: api.KindDir, Mode: 3}, 3) }, api.OK, "c:23@7 c/b:10,9@4 d:11@6 7"},
		{func() api.Errno { return f.Swap("D", dir, 7) }, api.ErrArg, "c:23@7 c/b:10,9@4 d:11@6 7"},
		{func() api.Errno { return f.Swap("d", api.Effect{}, 7) }, api.ErrArg, "c:23@7 c/b:10,9@4 d:11@6 7"},
		{func() api.Errno { return f.Swap("d", gone, 6) }, api.OK, "c:23@7 c/b:10,9@4 8"},
		{func() api.Errno { return f.Swap("d", gone, 6) }, api.ErrBusy, "c:23@7 c/b:10,9@4 8"},
		{func() api.Errno { return f.Chmod("c/b", 5) }, api.OK, "c:23@7 c/b:15,9@9 9"},
		{func() api.Errno { return f.Chmod("c", 512) }, api.ErrArg, "c:23@7 c/b:15,9@9 9"},
		{func() api.Errno { return f.Write("c/b", -1, nil) }, api.ErrArg, "c:23@7 c/b:15,9@9 9"},
		{func() api.Errno { return f.Write("c/b/x", 0, nil) }, api.ErrKind, "c:23@7 c/b:15,9@9 9"},
		{func() api.Errno { return f.Mkdir("c/b/x", 0) }, api.ErrKind, "c:23@7 c/b:15,9@9 9"},
		{func() api.Errno { return f.Mkdir("C", 0) }, api.ErrArg, "c:23@7 c/b:15,9@9 9"},
		{func() api.Errno { return f.Chmod("C", 0) }, api.ErrMissing, "c:23@7 c/b:15,9@9 9"},
		{func() api.Errno { return f.Remove("C") }, api.ErrArg, "c:23@7 c/b:15,9@9 9"},
		{func() api.Errno { return f.Rename("c", "c/d") }, api.ErrLoop, "c:23@7 c/b:15,9@9 9"},
		{func() api.Errno { return f.Rename("c/b", "c") }, api.ErrExists, "c:23@7 c/b:15,9@9 9"},
		{func() api.Errno { return f.Rename("x", "y") }, api.ErrMissing, "c:23@7 c/b:15,9@9 9"},
		{func() api.Errno { return f.Rename("c", "y/z") }, api.ErrMissing, "c:23@7 c/b:15,9@9 9"},
		{func() api.Errno { return f.Remove("c") }, api.OK, " :"},
	} {
		if err := x.got(); err != x.err || text(f) != x.want {
			t.Error(i, err, text(f))
		}
	}
	if f.Stamp("c") != 0 || f.Stamp("c/b") != 0 || f.Clock() != 10 {
		t.Error(f.Stamp("c"), f.Clock())
	}
}

// P13.2: a File does not come to the place of a Dir, though nothing is under it; a Dir comes to that of a File by Swap alone.
func TestKinds(t *testing.T) {
	f := vfs.New()
	f.Mkdir("d", 0)
	f.Write("f", 0, nil)
	for i, x := range []struct{ got, want api.Errno }{{f.Write("d", 0, nil), api.ErrKind}, {f.Mkdir("f", 0), api.ErrExists}, {f.Swap("d", file(0), 1), api.OK}, {f.Swap("f", dir, 2), api.OK}, {f.Write("d", 0, nil), api.OK}} {
		if x.got != x.want {
			t.Error(i, x.got)
		}
	}
}

// P13.2, P13.4: a tree of 200 has no room.
func TestFull(t *testing.T) {
	f := vfs.New()
	for i := range 200 {
		if err := f.Write(string([]byte{'a' + byte(i/26), 'a' + byte(i%26)}), 0, nil); err != api.OK {
			t.Fatal(i, err)
		}
	}
	for i, err := range []api.Errno{f.Write("zz", 0, nil), f.Mkdir("zz", 0), f.Swap("zz", dir, 0)} {
		if err != api.ErrFull {
			t.Error(i, err)
		}
	}
	if f.Clock() != 200 || f.Write("aa", 0, []byte{1}) != api.OK || f.Stamp("aa") != 201 || f.Stamp("ab") != 2 {
		t.Error(f.Clock())
	}
}

// P13.5: the clock never falls, a path whose stamp is as it was is what it was, and what is refused changes nothing.
func TestWhatFollows(t *testing.T) {
	rnd := rand.New(rand.NewSource(1))
	f := vfs.New()
	any := func() string {
		l := make([]string, 1+rnd.Intn(3))
		for i := range l {
			l[i] = string(rune('a' + rnd.Intn(3)))
		}
		return strings.Join(l, "/")
	}
	done := map[int]int{}
	for range 6000 {
		was, clock := f.Tree(), f.Clock()
		stamps := map[string]int{}
		for _, x := range was {
			stamps[x.Path] = f.Stamp(x.Path)
		}
		at, to, mode, b := any(), any(), rnd.Intn(3), []byte{byte(rnd.Intn(3))}
		var err api.Errno
		what := rnd.Intn(6)
		switch what {
		case 0:
			err = f.Write(at, mode, b)
		case 1:
			err = f.Mkdir(at, mode)
		case 2:
			err = f.Chmod(at, mode)
		case 3:
			err = f.Remove(at)
		case 4:
			err = f.Rename(at, to)
		case 5:
			err = f.Swap(at, []api.Effect{gone, dir, file(mode, b...)}[rnd.Intn(3)], f.Stamp(at)-rnd.Intn(2))
		}
		if err == api.OK && f.Clock() != clock {
			done[what]++
		}
		if f.Clock() != clock && (err != api.OK || f.Clock() != clock+1) || table.Check(f.Tree()) != api.OK {
			t.Fatal(what, at, err)
		}
		diff, _ := table.Diff(was, f.Tree())
		if f.Clock() == clock && len(diff) > 0 {
			t.Fatal(what, at, err, diff)
		}
		for _, x := range f.Tree() {
			e, there := table.Get(was, x.Path)
			if f.Stamp(x.Path) == stamps[x.Path] && (!there || !effect.Same(e, x.Effect)) {
				t.Fatal(what, at, x)
			}
			touched := x.Path == at || what == 4 && (x.Path == to || path.Under(to, x.Path))
			if f.Stamp(x.Path) != stamps[x.Path] && (!touched || f.Stamp(x.Path) != f.Clock()) {
				t.Fatal(what, at, to, x)
			}
		}
		for p := range stamps {
			if _, there := table.Get(f.Tree(), p); !there && f.Stamp(p) != 0 {
				t.Fatal(p)
			}
		}
	}
	for what := range 6 {
		if done[what] < 30 {
			t.Error(done)
		}
	}
}

// What is handed in is not kept, what is told is new memory.
func TestNew(t *testing.T) {
	f := vfs.New()
	b := []byte{7, 8}
	e := file(0, 5)
	f.Write("a", 0, b[:1])
	f.Swap("b", e, 0)
	b[0], e.Bytes[0] = 1, 1
	tree := f.Tree()
	if !slices.Equal(tree[0].Effect.Bytes, []byte{7}) || !slices.Equal(tree[1].Effect.Bytes, []byte{5}) {
		t.Error(tree)
	}
	tree[0].Effect.Bytes[0] = 1
	_ = append(tree[0].Effect.Bytes, 9)
	tree[1] = api.Entry{}
	if again := f.Tree(); again[0].Effect.Bytes[0] != 7 || again[1].Path != "b" || b[1] != 8 {
		t.Error(again)
	}
}
