package path_test

import (
	"math/rand"
	"slices"
	"strings"
	"testing"

	"tributary/api"
	"tributary/path"
)

var paths = []string{"a", "a/b", "a/b.c", "a/b/c/d/e/f", "abcdefghijkl", "...", "..a", "a..", ".a", "0/9/z", "_/-", "-", "_", "a/.../b",
	strings.Repeat("abcdefghijkl/", 5) + "abcdefghijkl"}

var noPaths = []string{"", "/", "a/", "/a", "a//b", ".", "..", "a/.", "a/..", "./a", "../a", "a/./b", "a/../b", "A", "aB", "a b", "a\x00", "\xff", "é", "a/é", "{", "`", "@", ":", "+", ",",
	"abcdefghijklm", "a/abcdefghijklm", "a/b/c/d/e/f/g", "a/b/c/d/e/f/", strings.Repeat("a/", 1000), strings.Repeat("a", 1000), "a\n", "a\\b"}

// P3.1: what is a path, and its parts.
func TestCheck(t *testing.T) {
	for _, s := range paths {
		l, e := path.Split(s)
		if path.Check(s) != api.OK || e != api.OK || strings.Join(l, "/") != s || len(l) != 1+strings.Count(s, "/") {
			t.Error(s, l, e)
		}
		if back, e := path.Join(l); back != s || e != api.OK {
			t.Error(s, back, e)
		}
	}
	for _, s := range noPaths {
		if l, e := path.Split(s); path.Check(s) != api.ErrArg || e != api.ErrArg || len(l) > 0 {
			t.Error(s, l, e)
		}
		if back, e := path.Join(strings.Split(s, "/")); back != "" || e != api.ErrArg {
			t.Error(s, back, e)
		}
	}
}

// P3.1: each byte that a part may have, and no other one.
func TestLetters(t *testing.T) {
	for c := range 256 {
		s := "x" + string([]byte{byte(c)})
		want := strings.IndexByte("abcdefghijklmnopqrstuvwxyz0123456789._-", byte(c)) >= 0
		if (path.Check(s) == api.OK) != want {
			t.Error(c)
		}
	}
}

// P3.1: elements that are no parts.
func TestJoin(t *testing.T) {
	for _, l := range [][]string{nil, {}, {""}, {"a/b"}, {"a", ""}, {"a", "b/c"}, {"a", ".."}, {"."}, {"a", "b", "c", "d", "e", "f", "g"}, make([]string, 10)} {
		if s, e := path.Join(l); s != "" || e != api.ErrArg {
			t.Error(l, s, e)
		}
	}
}

// P3.2: what a path lies in, and its last part.
func TestParentBase(t *testing.T) {
	for _, x := range []struct {
		s, parent string
		has       bool
		base      string
	}{
		{"a/b/c", "a/b", true, "c"}, {"a/b", "a", true, "b"}, {"a", "", false, "a"}, {"ab.c", "", false, "ab.c"},
		{"a/b/c/d/e/f", "a/b/c/d/e", true, "f"},
		{"", "", false, ""}, {"a/b/", "", false, ""}, {"a//b", "", false, ""}, {"A/b", "", false, ""}, {"a/..", "", false, ""}, {"a/b/c/d/e/f/g", "", false, ""},
	} {
		if p, ok := path.Parent(x.s); p != x.parent || ok != x.has || path.Base(x.s) != x.base {
			t.Error(x.s, p, ok, path.Base(x.s))
		}
	}
}

// P3.2: which lie under, and near, one another.
func TestUnderNear(t *testing.T) {
	for _, x := range []struct {
		a, b        string
		under, near bool
	}{
		{"a", "a/b", true, true}, {"a", "a/b/c", true, true}, {"a/b", "a/b/c/d", true, true},
		{"a", "ab", false, false}, {"a", "a", false, true}, {"a/b", "a", false, true}, {"a/b", "a/c", false, false},
		{"a", "a-/b", false, false}, {"a/b/c", "a", false, true}, {"b", "a/b", false, false},
		{"", "", false, false}, {"", "a", false, false}, {"", "/a", false, false}, {"A", "A", false, false}, {"A", "A/b", false, false},
		{"a", "a/", false, false}, {"a", "a//b", false, false}, {"a", "a/B", false, false}, {"a/", "a/b", false, false}, {"a", "a/b/c/d/e/f/g", false, false},
	} {
		if path.Under(x.a, x.b) != x.under || path.Near(x.a, x.b) != x.near || path.Near(x.b, x.a) != x.near {
			t.Error(x.a, x.b)
		}
	}
}

// P3.3: the order of any texts.
func TestLess(t *testing.T) {
	rising := []string{"", "/", "//", "/a", "\x00", "\x00/z", "\x00\x00", "-", "-/b", ".", "A", "a", "a/", "a//", "a/b", "a/b/c", "a/b-", "a/bc", "a\x00", "a-", "a-/b", "a.", "a0", "ab", "b", "\xff"}
	for i, a := range rising {
		for j, b := range rising {
			if path.Less(a, b) != (i < j) {
				t.Error(a, b)
			}
		}
	}
}

// P3.3: each once, in order; and what was handed in stays.
func TestSort(t *testing.T) {
	in := []string{"b", "a-", "a/b", "a", "a", "over"}[:5]
	got := path.Sort(in)
	if !slices.Equal(got, []string{"a", "a/b", "a-", "b"}) || !slices.Equal(in[:6], []string{"b", "a-", "a/b", "a", "a", "over"}) {
		t.Error(got, in)
	}
	got[0] = "x"
	_ = append(got, "y", "z")
	if !slices.Equal(in[:6], []string{"b", "a-", "a/b", "a", "a", "over"}) {
		t.Error(in)
	}
	if len(path.Sort(nil)) > 0 || !slices.Equal(path.Sort([]string{"", "", "/"}), []string{"", "/"}) {
		t.Error("few")
	}
}

// anyPath tells some path, of few parts and letters, so that many are near.
func anyPath(rnd *rand.Rand) string {
	l := make([]string, 1+rnd.Intn(4))
	for i := range l {
		l[i] = []string{"a", "b", "a-", "ab", "a.b"}[rnd.Intn(5)]
	}
	return strings.Join(l, "/")
}

// P3.4: of two unlike texts just one comes ahead; between a path and one under it come only such as are under it.
func TestOrderAndUnder(t *testing.T) {
	rnd := rand.New(rand.NewSource(1))
	between := 0
	for range 100000 {
		a, b, c := anyPath(rnd), anyPath(rnd), anyPath(rnd)
		if path.Less(a, b) == path.Less(b, a) && a != b || path.Less(a, a) {
			t.Fatal(a, b)
		}
		if path.Less(a, b) && path.Less(b, c) && !path.Less(a, c) {
			t.Fatal(a, b, c)
		}
		if path.Under(a, c) && path.Less(a, b) && path.Less(b, c) {
			between++
			if !path.Under(a, b) {
				t.Fatal(a, b, c)
			}
		}
	}
	if between < 100 {
		t.Error("too few:", between)
	}
}
