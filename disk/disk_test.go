package disk_test

import (
	"bytes"
	"math"
	"math/rand"
	"slices"
	"strings"
	"testing"

	"tributary/api"
	"tributary/disk"
)

func fresh(t *testing.T, room int) *disk.Disk {
	t.Helper()
	d, err := disk.New(room)
	if err != api.OK {
		t.Fatal(err)
	}
	return d
}

// want fails, if the calls did not answer these.
func want(t *testing.T, errs []api.Errno, wanted ...api.Errno) {
	t.Helper()
	if !slices.Equal(errs, wanted) {
		t.Error(errs, wanted)
	}
}

func has(t *testing.T, d *disk.Disk, name string, b []byte, err api.Errno) {
	t.Helper()
	if got, e := d.Read(name); e != err || !bytes.Equal(got, b) {
		t.Error(name, got, e)
	}
}

// P14.1: how much room there may be.
func TestNew(t *testing.T) {
	for room, err := range map[int]api.Errno{0: api.OK, 1: api.OK, 1000000: api.OK, -1: api.ErrArg, 1000001: api.ErrArg, math.MinInt: api.ErrArg, math.MaxInt: api.ErrArg} {
		d, e := disk.New(room)
		if e != err || (d == nil) != (err != api.OK) {
			t.Error(room, d, e)
		}
		if e == api.OK && (len(d.Names())+len(d.Loose())+d.Used()+d.Steps() != 0) {
			t.Error(room)
		}
	}
}

// P14.1 to P14.5: what is told of disks that nobody made.
func TestNone(t *testing.T) {
	for i, d := range []*disk.Disk{nil, {}} {
		b, err := d.Read("")
		want(t, []api.Errno{err, d.Append("", nil), d.Replace("", nil), d.Remove(""), d.Sync(""), d.Fuse(-1), d.Crash(nil)}, api.ErrNil, api.ErrNil, api.ErrNil, api.ErrNil, api.ErrNil, api.ErrNil, api.ErrNil)
		if len(b)+len(d.Names())+len(d.Loose())+d.Used()+d.Steps() != 0 {
			t.Error(i)
		}
	}
}

// P14.2, P14.3, P14.4: names, and what is not there.
func TestNames(t *testing.T) {
	d := fresh(t, 100)
	for _, name := range []string{"", strings.Repeat("n", 21)} {
		b, err := d.Read(name)
		want(t, []api.Errno{err, d.Append(name, nil), d.Append(name, make([]byte, 101)), d.Replace(name, nil), d.Remove(name), d.Sync(name)}, api.ErrArg, api.ErrArg, api.ErrArg, api.ErrArg, api.ErrArg, api.ErrArg)
		if len(b) > 0 {
			t.Error(b)
		}
	}
	b, err := d.Read("b")
	want(t, []api.Errno{err, d.Remove("b"), d.Sync("b")}, api.ErrMissing, api.ErrMissing, api.ErrMissing)
	if len(b) > 0 || d.Steps() != 0 {
		t.Error(b, d.Steps())
	}
	for _, name := range []string{strings.Repeat("n", 20), "\x00", "\xff/", "b"} {
		want(t, []api.Errno{d.Append(name, []byte{1})}, api.OK)
	}
	if !slices.Equal(d.Names(), []string{"\x00", "b", strings.Repeat("n", 20), "\xff/"}) || !slices.Equal(d.Loose(), d.Names()) || d.Used() != 4 || d.Steps() != 4 {
		t.Error(d.Names(), d.Loose(), d.Used(), d.Steps())
	}
}

// P14.3, P14.4, P14.5: the chapter's examples, one behind the other.
func TestExamples(t *testing.T) {
	d := fresh(t, 100)
	want(t, []api.Errno{d.Append("a", []byte{1, 2}), d.Crash(nil)}, api.OK, api.OK)
	has(t, d, "a", nil, api.ErrMissing)
	want(t, []api.Errno{d.Append("a", []byte{1, 2}), d.Sync("a"), d.Append("a", []byte{3, 4, 5})}, api.OK, api.OK, api.OK)
	has(t, d, "a", []byte{1, 2, 3, 4, 5}, api.OK)
	want(t, []api.Errno{d.Crash([]int{2})}, api.OK)
	has(t, d, "a", []byte{1, 2, 3, 4}, api.OK)
	if d.Used() != 4 || !slices.Equal(d.Names(), []string{"a"}) || len(d.Loose()) > 0 {
		t.Error(d.Used(), d.Names())
	}
	want(t, []api.Errno{d.Replace("a", []byte{9}), d.Crash([]int{0})}, api.OK, api.OK)
	has(t, d, "a", []byte{1, 2, 3, 4}, api.OK)
	want(t, []api.Errno{d.Replace("a", []byte{9}), d.Append("a", []byte{8, 7}), d.Crash([]int{2})}, api.OK, api.OK, api.OK)
	has(t, d, "a", []byte{9, 8}, api.OK)
	want(t, []api.Errno{d.Fuse(1), d.Append("a", []byte{1}), d.Append("a", []byte{1})}, api.OK, api.OK, api.ErrBroken)
	has(t, d, "a", nil, api.ErrBroken)
	want(t, []api.Errno{d.Crash(nil), d.Append("a", make([]byte, 98)), d.Append("a", make([]byte, 99))}, api.OK, api.OK, api.ErrFull)
	want(t, []api.Errno{d.Remove("b"), d.Remove("a")}, api.ErrMissing, api.OK)
	if !slices.Equal(d.Loose(), []string{"a"}) || len(d.Names()) > 0 || d.Used() != 0 {
		t.Error(d.Loose(), d.Names())
	}
	want(t, []api.Errno{d.Crash([]int{99}), d.Sync("b")}, api.OK, api.ErrMissing)
	has(t, d, "a", nil, api.ErrMissing)
	has(t, d, "", nil, api.ErrArg)
}

// P14.3: the room.
func TestRoom(t *testing.T) {
	d := fresh(t, 10)
	want(t, []api.Errno{d.Append("a", make([]byte, 11)), d.Append("a", make([]byte, 6)), d.Append("b", make([]byte, 5)), d.Append("b", make([]byte, 4)), d.Append("b", nil), d.Append("c", []byte{1}), d.Append("c", nil)},
		api.ErrFull, api.OK, api.ErrFull, api.OK, api.OK, api.ErrFull, api.OK)
	want(t, []api.Errno{d.Replace("a", make([]byte, 7)), d.Replace("a", make([]byte, 6)), d.Replace("b", make([]byte, 1)), d.Replace("a", make([]byte, 9)), d.Remove("a"), d.Replace("x", make([]byte, 10)), d.Replace("x", make([]byte, 9))},
		api.ErrFull, api.OK, api.OK, api.OK, api.OK, api.ErrFull, api.OK)
	if d.Used() != 10 || d.Steps() != 9 {
		t.Error(d.Used(), d.Steps())
	}
	// A crash may leave more than there is room for: then nothing but what takes enough away is done.
	d = fresh(t, 4)
	want(t, []api.Errno{d.Append("a", make([]byte, 4)), d.Sync("a"), d.Replace("a", nil), d.Append("b", make([]byte, 4)), d.Sync("b"), d.Crash(nil), d.Append("a", nil), d.Replace("a", make([]byte, 1)), d.Replace("a", nil), d.Fuse(0), d.Append("b", make([]byte, 1))},
		api.OK, api.OK, api.OK, api.OK, api.OK, api.OK, api.ErrFull, api.ErrFull, api.OK, api.OK, api.ErrFull)
	if d.Used() != 4 {
		t.Error(d.Used())
	}
}

// P14.1, P14.3, P14.4, P14.5: each kind of step burns the fuse; what is refused ahead of it does not.
func TestFuse(t *testing.T) {
	d := fresh(t, 10)
	want(t, []api.Errno{d.Append("a", []byte{1}), d.Sync("a"), d.Fuse(-1), d.Fuse(math.MinInt), d.Fuse(9), d.Fuse(4)}, api.OK, api.OK, api.ErrArg, api.ErrArg, api.OK, api.OK)
	want(t, []api.Errno{d.Append("", nil), d.Append("a", make([]byte, 10)), d.Remove("b"), d.Sync("b"), d.Replace("a", make([]byte, 11))}, api.ErrArg, api.ErrFull, api.ErrMissing, api.ErrMissing, api.ErrFull)
	want(t, []api.Errno{d.Append("a", []byte{2}), d.Replace("b", []byte{2}), d.Remove("b"), d.Sync("a")}, api.OK, api.OK, api.OK, api.OK)
	if d.Steps() != 6 || d.Used() != 2 {
		t.Error(d.Steps(), d.Used())
	}
	want(t, []api.Errno{d.Sync("b")}, api.ErrBroken)
	b, err := d.Read("")
	want(t, []api.Errno{err, d.Append("", nil), d.Replace("", nil), d.Remove(""), d.Sync(""), d.Fuse(-1), d.Fuse(3)}, api.ErrBroken, api.ErrBroken, api.ErrBroken, api.ErrBroken, api.ErrBroken, api.ErrBroken, api.ErrBroken)
	if len(b)+len(d.Names())+d.Used() > 0 || !slices.Equal(d.Loose(), []string{"b"}) || d.Steps() != 6 {
		t.Error(d.Names(), d.Loose(), d.Steps())
	}
	want(t, []api.Errno{d.Crash(nil)}, api.OK)
	has(t, d, "a", []byte{1, 2}, api.OK)
	has(t, d, "b", nil, api.ErrMissing)
	for _, step := range []func() api.Errno{func() api.Errno { return d.Append("a", nil) }, func() api.Errno { return d.Replace("a", nil) }, func() api.Errno { return d.Remove("a") }, func() api.Errno { return d.Sync("a") }} {
		want(t, []api.Errno{d.Fuse(0), step(), d.Crash(nil)}, api.OK, api.ErrBroken, api.OK)
		has(t, d, "a", []byte{1, 2}, api.OK)
	}
	for range 20 {
		want(t, []api.Errno{d.Append("a", nil)}, api.OK)
	}
}

// P14.5: of each file the first so many parts, by rising names.
func TestParts(t *testing.T) {
	begin := func() *disk.Disk {
		d := fresh(t, 100)
		for _, name := range []string{"c", "a", "quiet", "b"} {
			d.Append(name, []byte(name))
			d.Sync(name)
		}
		d.Append("c", []byte{1, 2})
		d.Append("c", nil)
		d.Append("c", []byte{3})
		d.Remove("a")
		d.Append("a", nil)
		d.Append("a", []byte{4})
		d.Replace("b", []byte{5, 6, 7})
		d.Remove("b")
		return d
	}
	for i, x := range []struct {
		keep    []int
		a, b, c string
	}{
		{nil, "a", "b", "c"}, {[]int{}, "a", "b", "c"}, {[]int{-1, -9, math.MinInt}, "a", "b", "c"}, {[]int{1}, "-", "b", "c"}, {[]int{2}, "", "b", "c"}, {[]int{3}, "\x04", "b", "c"}, {[]int{4}, "\x04", "b", "c"},
		{[]int{0, 1}, "a", "\x05\x06\x07", "c"}, {[]int{0, 2}, "a", "-", "c"}, {[]int{0, 0, 1}, "a", "b", "c\x01"}, {[]int{0, 0, 2}, "a", "b", "c\x01\x02"}, {[]int{0, 0, 3}, "a", "b", "c\x01\x02"}, {[]int{0, 0, 4}, "a", "b", "c\x01\x02\x03"},
		{[]int{math.MaxInt, math.MaxInt, math.MaxInt, 5, 5}, "\x04", "-", "c\x01\x02\x03"},
	} {
		d := begin()
		if !slices.Equal(d.Loose(), []string{"a", "b", "c"}) {
			t.Fatal(d.Loose())
		}
		want(t, []api.Errno{d.Crash(x.keep)}, api.OK)
		for range 2 {
			for name, s := range map[string]string{"a": x.a, "b": x.b, "c": x.c, "quiet": "quiet"} {
				got, err := d.Read(name)
				if (err == api.ErrMissing) != (s == "-") || s != "-" && string(got) != s {
					t.Error(i, name, got, err)
				}
			}
			if len(d.Loose()) > 0 {
				t.Error(i, d.Loose())
			}
			d.Crash([]int{1, 1, 1})
		}
	}
}

// P14.4: what is synced is firm, a removal too.
func TestSync(t *testing.T) {
	d := fresh(t, 100)
	want(t, []api.Errno{d.Append("a", nil), d.Sync("a"), d.Crash(nil)}, api.OK, api.OK, api.OK)
	has(t, d, "a", nil, api.OK)
	want(t, []api.Errno{d.Remove("a"), d.Remove("a"), d.Sync("a"), d.Sync("a"), d.Crash(nil)}, api.OK, api.ErrMissing, api.OK, api.ErrMissing, api.OK)
	has(t, d, "a", nil, api.ErrMissing)
	want(t, []api.Errno{d.Append("a", []byte{1}), d.Append("b", []byte{2}), d.Sync("a"), d.Sync("a"), d.Crash(nil)}, api.OK, api.OK, api.OK, api.OK, api.OK)
	has(t, d, "a", []byte{1}, api.OK)
	has(t, d, "b", nil, api.ErrMissing)
}

// file is a file as it is meant: what is firm, and what may be there behind a crash, part by part.
type file struct {
	now   string
	there bool
	maybe []string // "-" where it is not there
}

func (f *file) may(s string) { f.maybe = append(f.maybe, s) }

// P14.6: what was synced outlives a crash; behind one there is some beginning of what was done; no file minds another one.
func TestWhatFollows(t *testing.T) {
	rnd := rand.New(rand.NewSource(1))
	for range 400 {
		d := fresh(t, 1000)
		files := map[string]*file{"a": {maybe: []string{"-"}}, "b": {maybe: []string{"-"}}, "c": {maybe: []string{"-"}}}
		for range 30 {
			name := []string{"a", "b", "c"}[rnd.Intn(3)]
			f := files[name]
			b := make([]byte, rnd.Intn(4))
			rnd.Read(b)
			for i := range b {
				b[i] = 'a' + b[i]%26
			}
			switch rnd.Intn(6) {
			case 0, 1:
				want(t, []api.Errno{d.Append(name, b)}, api.OK)
				if len(b) == 0 {
					f.may(f.now)
				}
				for i := range b {
					f.may(f.now + string(b[:i+1]))
				}
				f.now, f.there = f.now+string(b), true
			case 2:
				want(t, []api.Errno{d.Replace(name, b)}, api.OK)
				f.now, f.there = string(b), true
				f.may(f.now)
			case 3:
				if err := d.Remove(name); (err == api.OK) != f.there {
					t.Fatal(err)
				}
				if f.there {
					f.may("-")
				}
				f.now, f.there = "", false
			case 4:
				err := d.Sync(name)
				if missing := !f.there && len(f.maybe) == 1; (err == api.ErrMissing) != missing {
					t.Fatal(err, f)
				}
				f.maybe = f.maybe[len(f.maybe)-1:]
			case 5:
				var keep []int
				for _, name := range []string{"a", "b", "c"} {
					if f := files[name]; len(f.maybe) > 1 {
						n := rnd.Intn(len(f.maybe) + 1)
						keep = append(keep, n)
						left := f.maybe[min(n, len(f.maybe)-1)]
						*f = file{now: strings.TrimPrefix(left, "-"), there: left != "-", maybe: []string{left}}
					}
				}
				want(t, []api.Errno{d.Crash(keep)}, api.OK)
			}
			used := 0
			for name, f := range files {
				got, err := d.Read(name)
				if (err == api.OK) != f.there || string(got) != f.now || slices.Contains(d.Names(), name) != f.there || slices.Contains(d.Loose(), name) != (len(f.maybe) > 1) {
					t.Fatal(name, got, err, f)
				}
				used += len(f.now)
			}
			if d.Used() != used {
				t.Fatal(d.Used(), used)
			}
		}
	}
}

// What is handed in is not kept, what is told is new memory.
func TestMemory(t *testing.T) {
	d := fresh(t, 100)
	in := []byte{1, 2, 3}
	d.Append("a", in[:2])
	d.Replace("b", in[:2])
	in[0] = 9
	got, _ := d.Read("a")
	got[0] = 9
	_ = append(got, 9, 9, 9)
	d.Append("a", []byte{5})
	d.Append("b", []byte{5})
	has(t, d, "a", []byte{1, 2, 5}, api.OK)
	has(t, d, "b", []byte{1, 2, 5}, api.OK)
	keep := []int{1, 1, 7}[:2]
	d.Crash(keep)
	if in[2] != 3 || keep[:3][2] != 7 {
		t.Error(in, keep)
	}
	has(t, d, "a", []byte{1}, api.OK)
	has(t, d, "b", []byte{1, 2}, api.OK)
}
