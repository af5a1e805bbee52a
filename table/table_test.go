package table_test

import (
	"math/rand"
	"slices"
	"strconv"
	"strings"
	"testing"

	"tributary/api"
	"tributary/effect"
	"tributary/path"
	"tributary/table"
)

var (
	dir  = api.Effect{Kind: api.KindDir}
	gone = api.Effect{Kind: api.KindGone}
)

func file(b ...byte) api.Effect { return api.Effect{Kind: api.KindFile, Bytes: b} }

func entry(p string, e api.Effect) api.Entry { return api.Entry{Path: p, Effect: e} }

// sample is the chapter's tree.
func sample() []api.Entry {
	return []api.Entry{entry("a", dir), entry("a/b", file(7)), entry("c", file(8))}
}

// full is a tree of so many Files in one Dir.
func full(n int) []api.Entry {
	t := []api.Entry{entry("d", dir)}
	for i := 1; i < n; i++ {
		t = append(t, entry("d/"+string([]byte{'a' + byte(i/26), 'a' + byte(i%26)}), file(byte(i))))
	}
	return t
}

func paths(t []api.Entry) string {
	var l []string
	for _, x := range t {
		l = append(l, x.Path)
	}
	return strings.Join(l, " ")
}

func same(a, b []api.Entry) bool {
	return slices.EqualFunc(a, b, func(x, y api.Entry) bool { return x.Path == y.Path && effect.Same(x.Effect, y.Effect) })
}

// P5.1: what is a tree.
func TestCheck(t *testing.T) {
	for i, l := range [][]api.Entry{nil, sample(), full(200), {entry("a", dir), entry("a/b", dir), entry("a/b/c", dir), entry("a-", file())}} {
		if table.Check(l) != api.OK {
			t.Error(i)
		}
	}
	for i, l := range [][]api.Entry{
		full(201),
		{entry("a/b", file())},
		{entry("a", file()), entry("a/b", file())},
		{entry("a/b", file()), entry("a", dir)},
		{entry("a", dir), entry("a", dir)},
		{entry("b", dir), entry("a", dir)},
		{entry("a", dir), entry("a-", dir), entry("a/b", dir)},
		{entry("a", gone)},
		{entry("a", api.Effect{})},
		{entry("a", api.Effect{Kind: api.KindDir, Bytes: []byte{1}})},
		{entry("", dir)},
		{entry("A", dir)},
		{entry("a", dir), entry("a/b/c", dir)},
	} {
		if table.Check(l) != api.ErrArg {
			t.Error(i)
		}
	}
}

// P5.1: what is at a path, and under one, in any list.
func TestGetUnder(t *testing.T) {
	odd := []api.Entry{entry("x/y", file(1)), entry("x", gone), entry("x", file(2)), entry("X/z", dir), entry("x/a", api.Effect{}), entry("xx", dir)}
	if e, ok := table.Get(odd, "x"); !ok || !effect.Same(e, gone) {
		t.Error(e, ok)
	}
	if e, ok := table.Get(odd, "X/z"); !ok || !effect.Same(e, dir) {
		t.Error(e, ok)
	}
	if e, ok := table.Get(odd, "y"); ok || !effect.Same(e, api.Effect{}) {
		t.Error(e, ok)
	}
	if got := paths(table.Under(odd, "x")); got != "x/y x/a" {
		t.Error(got)
	}
	if len(table.Under(odd, "X")) > 0 || len(table.Under(odd, "")) > 0 || len(table.Under(nil, "a")) > 0 || len(table.Under(sample(), "a")) != 1 || len(table.Under(sample(), "c")) > 0 {
		t.Error("Under")
	}
}

// P5.2: Put, and why not.
func TestPut(t *testing.T) {
	for i, x := range []struct {
		t    []api.Entry
		at   string
		e    api.Effect
		want string
		err  api.Errno
	}{
		{sample(), "a/d", dir, "a a/b a/d c", api.OK},
		{sample(), "a-", file(), "a a/b a- c", api.OK},
		{sample(), "0", file(), "0 a a/b c", api.OK},
		{nil, "a", file(), "a", api.OK},
		{sample(), "a", api.Effect{Kind: api.KindDir, Mode: 3}, "a a/b c", api.OK},
		{sample(), "c", dir, "a a/b c", api.OK},
		{sample(), "a/b", dir, "a a/b c", api.OK},
		{sample(), "c/d", dir, "", api.ErrKind},
		{sample(), "x/y", dir, "", api.ErrMissing},
		{sample(), "a/x/y", dir, "", api.ErrMissing},
		{sample(), "a/b/c", file(), "", api.ErrKind},
		{sample(), "a", file(), "", api.ErrKind},
		{sample(), "a", gone, "", api.ErrArg},
		{sample(), "x/y", gone, "", api.ErrArg},
		{sample(), "a", api.Effect{}, "", api.ErrArg},
		{sample(), "A", dir, "", api.ErrArg},
		{sample()[1:], "c", dir, "", api.ErrArg},
		{full(199), "d/zz", file(), paths(full(199)) + " d/zz", api.OK},
		{full(200), "d/zz", file(), "", api.ErrFull},
		{full(200), "d/ab", file(9, 9), paths(full(200)), api.OK},
		{full(200), "d/ab/c", file(), "", api.ErrKind},
		{full(200), "d", file(), "", api.ErrKind},
		{full(200), "x/y", file(), "", api.ErrMissing},
	} {
		was := slices.Clone(x.t)
		out, err := table.Put(x.t, x.at, x.e)
		if err != x.err || paths(out) != x.want || !same(was, x.t) {
			t.Error(i, paths(out), err)
		}
		if err == api.OK {
			if e, ok := table.Get(out, x.at); !ok || !effect.Same(e, x.e) || table.Check(out) != api.OK {
				t.Error(i, e, ok)
			}
		}
	}
}

// P5.3: Remove, and why not.
func TestRemove(t *testing.T) {
	deep := []api.Entry{entry("a", dir), entry("a/b", dir), entry("a/b/c", file()), entry("a-", dir), entry("a-/x", file()), entry("ab", file())}
	for i, x := range []struct {
		t        []api.Entry
		at, want string
		err      api.Errno
	}{
		{sample(), "a", "c", api.OK},
		{sample(), "a/b", "a c", api.OK},
		{deep, "a", "a- a-/x ab", api.OK},
		{deep, "a/b", "a a- a-/x ab", api.OK},
		{deep, "a-", "a a/b a/b/c ab", api.OK},
		{sample()[:1], "a", "", api.OK},
		{sample(), "x", "", api.ErrMissing},
		{sample(), "a/x", "", api.ErrMissing},
		{nil, "a", "", api.ErrMissing},
		{sample(), "", "", api.ErrArg},
		{sample()[1:], "c", "", api.ErrArg},
	} {
		was := slices.Clone(x.t)
		out, err := table.Remove(x.t, x.at)
		if err != x.err || paths(out) != x.want || !same(was, x.t) {
			t.Error(i, paths(out), err)
		}
	}
}

// P5.4: Move, and why not, in the order of errors.
func TestMove(t *testing.T) {
	deep := []api.Entry{entry("a", dir), entry("a/b", dir), entry("a/b/c", file(1)), entry("d", dir), entry("d/e", dir), entry("d/e/f", dir), entry("d/e/f/g", dir), entry("x", file(2))}
	for i, x := range []struct {
		t              []api.Entry
		from, to, want string
		err            api.Errno
	}{
		{sample(), "a", "e", "c e e/b", api.OK},
		{sample(), "c", "a/c", "a a/b a/c", api.OK},
		{sample(), "a/b", "b", "a b c", api.OK},
		{deep, "a", "d/a", "d d/a d/a/b d/a/b/c d/e d/e/f d/e/f/g x", api.OK},
		{deep, "a", "d/e/f/a", "d d/e d/e/f d/e/f/a d/e/f/a/b d/e/f/a/b/c d/e/f/g x", api.OK},
		{deep, "a", "d/e/f/g/a", "", api.ErrArg},
		{deep, "a/b", "d/e/f/g/a", "a d d/e d/e/f d/e/f/g d/e/f/g/a d/e/f/g/a/c x", api.OK},
		{sample(), "a", "a/b", "", api.ErrLoop},
		{sample(), "a", "a/x/y", "", api.ErrLoop},
		{sample(), "a", "a", "", api.ErrLoop},
		{sample(), "x", "x", "", api.ErrMissing},
		{sample(), "x", "x/y", "", api.ErrMissing},
		{sample(), "c", "a", "", api.ErrExists},
		{sample(), "a/b", "a", "", api.ErrExists},
		{sample(), "c", "x/y", "", api.ErrMissing},
		{sample(), "a", "c/y", "", api.ErrKind},
		{sample(), "A", "b", "", api.ErrArg},
		{sample(), "a", "B", "", api.ErrArg},
		{sample(), "x", "B", "", api.ErrArg},
		{sample()[1:], "c", "d", "", api.ErrArg},
	} {
		was := slices.Clone(x.t)
		out, err := table.Move(x.t, x.from, x.to)
		if err != x.err || paths(out) != x.want || !same(was, x.t) {
			t.Error(i, paths(out), err)
		}
		if err == api.OK {
			e, _ := table.Get(x.t, x.from)
			if got, ok := table.Get(out, x.to); !ok || !effect.Same(e, got) || table.Check(out) != api.OK {
				t.Error(i, got, ok)
			}
		}
	}
}

// P5.5: two trees, path by path.
func TestWalkDiff(t *testing.T) {
	a := sample()
	b := []api.Entry{entry("a", dir), entry("b", file(1)), entry("c", file(9))}
	none := api.Effect{}
	all := []api.Pair{{Path: "a", A: dir, B: dir}, {Path: "a/b", A: file(7)}, {Path: "b", B: file(1)}, {Path: "c", A: file(8), B: file(9)}}
	equal := func(x, y api.Pair) bool {
		return x.Path == y.Path && effect.Same(x.A, y.A) && effect.Same(x.B, y.B)
	}
	got, err := table.Walk(a, b)
	if err != api.OK || !slices.EqualFunc(got, all, equal) {
		t.Error(got, err)
	}
	got, err = table.Diff(a, b)
	if err != api.OK || !slices.EqualFunc(got, all[1:], equal) {
		t.Error(got, err)
	}
	back, err := table.Walk(b, a)
	if err != api.OK || len(back) != 4 || !effect.Same(back[1].A, none) || !effect.Same(back[1].B, file(7)) {
		t.Error(back, err)
	}
	if l, err := table.Walk(a, nil); err != api.OK || len(l) != 3 {
		t.Error(l, err)
	}
	if l, err := table.Walk(nil, a); err != api.OK || len(l) != 3 || l[1].Path != "a/b" || !effect.Same(l[1].B, file(7)) || !effect.Same(l[1].A, none) {
		t.Error(l, err)
	}
	x, y := []api.Entry{entry("a", dir), entry("d", dir), entry("e", dir)}, []api.Entry{entry("b", dir), entry("c", dir), entry("e", dir), entry("f", dir)}
	for range 2 {
		var s string
		l, err := table.Walk(x, y)
		for _, p := range l {
			s += p.Path
		}
		if err != api.OK || s != "abcdef" {
			t.Error(s, err)
		}
		x, y = y, x
	}
	if l, err := table.Diff(a, a); err != api.OK || len(l) > 0 {
		t.Error(l, err)
	}
	if l, err := table.Walk(nil, nil); err != api.OK || len(l) > 0 {
		t.Error(l, err)
	}
	for _, f := range []func(a, b []api.Entry) ([]api.Pair, api.Errno){table.Walk, table.Diff} {
		if l, err := f(a[1:], a); err != api.ErrArg || len(l) > 0 {
			t.Error(l, err)
		}
		if l, err := f(a, a[1:]); err != api.ErrArg || len(l) > 0 {
			t.Error(l, err)
		}
	}
}

// What is told is new memory.
func TestNew(t *testing.T) {
	in := append(sample(), entry("spare", dir))[:3]
	e := file(8, 8)
	put, _ := table.Put(in, "c", e)
	more, _ := table.Put(in, "b", e)
	put[2].Effect.Bytes[0], more[2].Effect.Bytes[1] = 1, 1
	if e.Bytes[0] != 8 || e.Bytes[1] != 8 {
		t.Error(e)
	}
	moved, _ := table.Move(in, "c", "d")
	rest, _ := table.Remove(in, "a/b")
	walk, _ := table.Walk(in, in)
	under := table.Under(in, "a")
	got, _ := table.Get(in, "c")
	put[1].Effect.Bytes[0], moved[2].Effect.Bytes[0], rest[1].Effect.Bytes[0], under[0].Effect.Bytes[0], got.Bytes[0] = 1, 1, 1, 1, 1
	walk[1].A.Bytes[0] = 2
	walk[2].B.Bytes[0] = 2
	if walk[1].B.Bytes[0] != 7 || walk[2].A.Bytes[0] != 8 || !same(in, sample()) || in[:4][3].Path != "spare" {
		t.Error(in)
	}
	for _, l := range [][]api.Entry{put, moved, rest, under} {
		_ = append(l, entry("x", dir))
	}
	if in[:4][3].Path != "spare" {
		t.Error(in[:4])
	}
}

// P5.6: whatever is done, a tree comes of it; all else stays; what is moved there and back is as it was.
func TestWhatFollows(t *testing.T) {
	rnd := rand.New(rand.NewSource(1))
	any := func() string {
		l := make([]string, 1+rnd.Intn(3))
		for i := range l {
			l[i] = string(rune('a' + rnd.Intn(3)))
		}
		return strings.Join(l, "/")
	}
	var tree []api.Entry
	done := map[string]int{}
	for i := range 4000 {
		at, to := any(), any()
		e := []api.Effect{dir, file(byte(i)), dir}[rnd.Intn(3)]
		what := rnd.Intn(4)
		var out []api.Entry
		var err api.Errno
		switch what {
		case 0, 1:
			out, err = table.Put(tree, at, e)
			if err == api.OK {
				for _, x := range out {
					if was, ok := table.Get(tree, x.Path); x.Path != at && (!ok || !effect.Same(was, x.Effect)) {
						t.Fatal(at, x)
					}
				}
			}
		case 2:
			out, err = table.Remove(tree, at)
			if err == api.OK && slices.ContainsFunc(out, func(x api.Entry) bool { return x.Path == at || path.Under(at, x.Path) }) {
				t.Fatal(at, paths(out))
			}
		case 3:
			out, err = table.Move(tree, at, to)
			if err == api.OK {
				if back, err := table.Move(out, to, at); err != api.OK || !same(back, tree) {
					t.Fatal(at, to, paths(back), err)
				}
			}
		}
		if table.Check(out) != api.OK || err != api.OK && len(out) > 0 {
			t.Fatal(paths(out), err)
		}
		if err == api.OK {
			done[strconv.Itoa(what)]++
			tree = out
		}
	}
	if len(done) != 4 || done["3"] < 20 {
		t.Error(done)
	}
}
