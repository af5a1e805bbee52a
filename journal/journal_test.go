package journal_test

import (
	"bytes"
	"encoding/binary"
	"hash/fnv"
	"math/rand"
	"slices"
	"strings"
	"testing"

	"tributary/api"
	"tributary/disk"
	"tributary/journal"
)

func fresh(t *testing.T, room int) *disk.Disk {
	t.Helper()
	d, err := disk.New(room)
	if err != api.OK {
		t.Fatal(err)
	}
	return d
}

func open(t *testing.T, d *disk.Disk) *journal.Journal {
	t.Helper()
	j, err := journal.Open(d, "a")
	if err != api.OK {
		t.Fatal(err)
	}
	return j
}

func want(t *testing.T, errs []api.Errno, wanted ...api.Errno) {
	t.Helper()
	if !slices.Equal(errs, wanted) {
		t.Error(errs, wanted)
	}
}

// frame tells a frame as the chapter says it.
func frame(b ...byte) []byte {
	h := fnv.New64a()
	h.Write(b)
	out := binary.BigEndian.AppendUint32(nil, uint32(len(b)))
	return append(binary.BigEndian.AppendUint64(out, h.Sum64()), b...)
}

func gen(n uint64) []byte { return binary.BigEndian.AppendUint64(nil, n) }

// text tells a journal: its generation, its snapshot, its records.
func text(j *journal.Journal) string {
	l := []string{string(rune('0' + j.Gen())), string(j.Snap())}
	for _, b := range j.Records() {
		l = append(l, string(b))
	}
	return strings.Join(l, "|")
}

func told(t *testing.T, j *journal.Journal, want string) {
	t.Helper()
	if got := text(j); got != want {
		t.Errorf("%q, not %q", got, want)
	}
}

// P15.1 to P15.4: journals that nobody made, disks that nobody made, names.
func TestNone(t *testing.T) {
	for i, j := range []*journal.Journal{nil, {}} {
		want(t, []api.Errno{j.Append(make([]byte, 70000)), j.Sync(), j.Compact(make([]byte, 70000))}, api.ErrNil, api.ErrNil, api.ErrNil)
		if len(j.Snap())+len(j.Records())+j.Gen() > 0 || j.Broken() {
			t.Error(i)
		}
	}
	for _, d := range []*disk.Disk{nil, {}} {
		if j, err := journal.Open(d, ""); j != nil || err != api.ErrNil {
			t.Error(j, err)
		}
	}
	out := fresh(t, 100)
	out.Fuse(0)
	out.Append("x", nil)
	for _, d := range []*disk.Disk{fresh(t, 100), out} {
		for _, name := range []string{"", strings.Repeat("n", 17), strings.Repeat("n", 30)} {
			if j, err := journal.Open(d, name); j != nil || err != api.ErrArg || len(d.Names()) > 0 {
				t.Error(name, j, err)
			}
		}
	}
	if j, err := journal.Open(out, "a"); j != nil || err != api.ErrBroken {
		t.Error(j, err)
	}
	d := fresh(t, 100)
	if _, err := journal.Open(d, strings.Repeat("n", 16)); err != api.OK || !slices.Equal(d.Names(), []string{strings.Repeat("n", 16) + ".l"}) || len(d.Loose()) > 0 || d.Steps() != 2 {
		t.Error(err, d.Names())
	}
}

// P15.1, P15.2, P15.3, P15.4: the chapter's examples, and what lies on the disk.
func TestExamples(t *testing.T) {
	d := fresh(t, 1000)
	j := open(t, d)
	told(t, j, "0|")
	lies(t, d, "a.l", frame(gen(0)...))
	want(t, []api.Errno{j.Append([]byte{7}), j.Sync(), d.Crash(nil)}, api.OK, api.OK, api.OK)
	j = open(t, d)
	told(t, j, "0||\x07")
	lies(t, d, "a.l", slices.Concat(frame(gen(0)...), frame(7)))
	want(t, []api.Errno{j.Append([]byte{8}), d.Crash([]int{12})}, api.OK, api.OK)
	j = open(t, d)
	told(t, j, "0||\x07")
	lies(t, d, "a.l", slices.Concat(frame(gen(0)...), frame(7)))
	want(t, []api.Errno{j.Append([]byte{8}), d.Crash([]int{13})}, api.OK, api.OK)
	j = open(t, d)
	told(t, j, "0||\x07|\x08")
	want(t, []api.Errno{j.Compact([]byte{1, 2})}, api.OK)
	told(t, j, "1|\x01\x02")
	lies(t, d, "a.s", frame(append(gen(1), 1, 2)...))
	lies(t, d, "a.l", frame(gen(1)...))
	told(t, open(t, d), "1|\x01\x02")
	want(t, []api.Errno{j.Append(nil), j.Append([]byte{5}), j.Append(make([]byte, 60001)), j.Compact(make([]byte, 59993))}, api.OK, api.OK, api.ErrLong, api.ErrLong)
	told(t, j, "1|\x01\x02||\x05")
	want(t, []api.Errno{d.Crash([]int{12 + 12})}, api.OK)
	told(t, open(t, d), "1|\x01\x02|")
	want(t, []api.Errno{d.Replace("a.s", []byte{9})}, api.OK)
	if k, err := journal.Open(d, "a"); k != nil || err != api.ErrDamaged || !slices.Equal(d.Names(), []string{"a.l", "a.s"}) {
		t.Error(k, err, d.Names())
	}
	told(t, j, "1|\x01\x02||\x05")
}

func lies(t *testing.T, d *disk.Disk, name string, want []byte) {
	t.Helper()
	if b, err := d.Read(name); err != api.OK || !bytes.Equal(b, want) {
		t.Error(name, b, err)
	}
}

// P15.1: what is damaged, and what is mended.
func TestOpen(t *testing.T) {
	cut := func(b []byte) []byte { return b[:len(b)-1] }
	turned := func(b []byte) []byte {
		b = slices.Clone(b)
		b[len(b)-1] ^= 1
		return b
	}
	long := frame(make([]byte, 60001)...)
	longest := frame(make([]byte, 60000)...)
	g0, g1, g2 := frame(gen(0)...), frame(gen(1)...), frame(gen(2)...)
	s1, s2 := frame(append(gen(1), "snap"...)...), frame(append(gen(2), "snap"...)...)
	x, y := frame('x'), frame('y', 'y')
	for i, c := range []struct {
		snap, log []byte // nil: not there
		err       api.Errno
		want      string
		steps     int
		left      []byte
	}{
		{nil, nil, api.OK, "0|", 2, g0},
		{nil, g0, api.OK, "0|", 0, g0},
		{nil, slices.Concat(g0, x, y), api.OK, "0||x|yy", 0, slices.Concat(g0, x, y)},
		{nil, slices.Concat(g0, x, cut(y)), api.OK, "0||x", 2, slices.Concat(g0, x)},
		{nil, slices.Concat(g0, x, turned(y), x), api.OK, "0||x", 2, slices.Concat(g0, x)},
		{nil, slices.Concat(g0, x, []byte{0, 0, 0}), api.OK, "0||x", 2, slices.Concat(g0, x)},
		{nil, slices.Concat(g0, x, long), api.OK, "0||x", 2, slices.Concat(g0, x)},
		{nil, slices.Concat(g0, longest, x), api.OK, "0||" + string(make([]byte, 60000)) + "|x", 0, slices.Concat(g0, longest, x)},
		{nil, []byte{}, api.ErrDamaged, "", 0, nil},
		{nil, cut(g0), api.ErrDamaged, "", 0, nil},
		{nil, turned(g0), api.ErrDamaged, "", 0, nil},
		{nil, g1, api.ErrDamaged, "", 0, nil},
		{nil, frame(gen(1 << 63)...), api.ErrDamaged, "", 0, nil},
		{nil, frame(gen(0)[:7]...), api.ErrDamaged, "", 0, nil},
		{nil, frame(append(gen(0), 0)...), api.ErrDamaged, "", 0, nil},
		{nil, x, api.ErrDamaged, "", 0, nil},
		{s1, nil, api.OK, "1|snap", 2, g1},
		{s1, g0, api.OK, "1|snap", 2, g1},
		{s1, slices.Concat(g0, x), api.OK, "1|snap", 2, g1},
		{s1, slices.Concat(g0, x, cut(y)), api.OK, "1|snap", 2, g1},
		{s1, slices.Concat(g1, x), api.OK, "1|snap|x", 0, slices.Concat(g1, x)},
		{s1, slices.Concat(g1, x, cut(y)), api.OK, "1|snap|x", 2, slices.Concat(g1, x)},
		{s1, g2, api.ErrDamaged, "", 0, nil},
		{s2, g1, api.OK, "2|snap", 2, g2},
		{frame(gen(1)...), g1, api.OK, "1|", 0, g1},
		{frame(gen(1)[:7]...), g1, api.ErrDamaged, "", 0, nil},
		{frame(gen(0)...), g0, api.ErrDamaged, "", 0, nil},
		{frame(gen(1<<40 + 1)...), g0, api.ErrDamaged, "", 0, nil},
		{frame(gen(1 << 63)...), g0, api.ErrDamaged, "", 0, nil},
		{[]byte{}, g0, api.ErrDamaged, "", 0, nil},
		{cut(s1), g1, api.ErrDamaged, "", 0, nil},
		{turned(s1), g1, api.ErrDamaged, "", 0, nil},
		{slices.Concat(s1, []byte{0}), g1, api.ErrDamaged, "", 0, nil},
		{slices.Concat(s1, x), g1, api.ErrDamaged, "", 0, nil},
		{cut(s1), nil, api.ErrDamaged, "", 0, nil},
	} {
		d := fresh(t, 1000000)
		for name, b := range map[string][]byte{"a.s": c.snap, "a.l": c.log} {
			if b != nil {
				want(t, []api.Errno{d.Replace(name, b), d.Sync(name)}, api.OK, api.OK)
			}
		}
		steps := d.Steps()
		j, err := journal.Open(d, "a")
		if err != c.err || (j == nil) != (err != api.OK) || d.Steps()-steps != c.steps {
			t.Error(i, err, d.Steps()-steps)
			continue
		}
		if err == api.OK {
			told(t, j, c.want)
			d.Crash(nil)
			lies(t, d, "a.l", c.left)
			told(t, open(t, d), c.want)
		}
	}
}

// P15.1: the first error of what is done to the disk.
func TestOpenRefused(t *testing.T) {
	d := fresh(t, 19)
	if j, err := journal.Open(d, "a"); j != nil || err != api.ErrFull {
		t.Error(j, err)
	}
	for fuse := range 3 {
		d := fresh(t, 100)
		d.Fuse(fuse)
		j, err := journal.Open(d, "a")
		if (err == api.OK) != (fuse == 2) || fuse < 2 && (j != nil || err != api.ErrBroken) {
			t.Error(fuse, j, err)
		}
		d.Crash(nil)
		told(t, open(t, d), "0|")
	}
}

// P15.2, P15.3, P15.4: what the disk refuses, and when a journal is broken.
func TestRefused(t *testing.T) {
	d := fresh(t, 60)
	j := open(t, d)
	want(t, []api.Errno{j.Append(make([]byte, 29)), j.Append(make([]byte, 28)), j.Append(nil), j.Sync(), j.Compact(nil)}, api.ErrFull, api.OK, api.ErrFull, api.OK, api.ErrFull)
	if j.Broken() || len(j.Records()) != 1 || j.Gen() != 0 {
		t.Error(j.Broken(), j.Records())
	}
	d.Fuse(0)
	want(t, []api.Errno{j.Append(nil)}, api.ErrFull)
	want(t, []api.Errno{j.Sync(), j.Sync(), j.Append(make([]byte, 70000)), j.Compact(make([]byte, 70000))}, api.ErrBroken, api.ErrBroken, api.ErrBroken, api.ErrBroken)
	if !j.Broken() || len(j.Records()) != 1 {
		t.Error(j.Broken())
	}
	d.Crash(nil)
	want(t, []api.Errno{j.Append(nil), j.Sync(), j.Compact(nil)}, api.ErrBroken, api.ErrBroken, api.ErrBroken)
	if k := open(t, d); k.Broken() || len(k.Records()) != 1 {
		t.Error(k.Records())
	}
	d = fresh(t, 100)
	j = open(t, d)
	d.Fuse(1)
	want(t, []api.Errno{j.Append([]byte{1}), j.Append([]byte{2})}, api.OK, api.ErrBroken)
	if !j.Broken() || len(j.Records()) != 1 {
		t.Error(j.Broken(), j.Records())
	}
	// A Compact that is refused at its first Replace for want of room breaks nothing; one that is behind it does.
	d = fresh(t, 50)
	j = open(t, d)
	want(t, []api.Errno{j.Compact(make([]byte, 11)), j.Compact(make([]byte, 10))}, api.ErrFull, api.OK)
	d.Replace("a.l", nil)
	want(t, []api.Errno{j.Compact(make([]byte, 20)), j.Append(nil)}, api.ErrFull, api.ErrBroken)
	if !j.Broken() || j.Gen() != 1 || len(j.Snap()) != 10 {
		t.Error(j.Gen(), j.Snap())
	}
	for fuse := range 5 {
		d := fresh(t, 100)
		j := open(t, d)
		j.Append([]byte{5})
		j.Sync()
		d.Fuse(fuse)
		if err := j.Compact([]byte{6}); (err == api.OK) != (fuse == 4) || j.Broken() == (fuse == 4) || fuse < 4 && (err != api.ErrBroken || text(j) != "0||\x05") {
			t.Error(fuse, err, text(j))
		}
	}
}

// P15.3: the last generation.
func TestLastGen(t *testing.T) {
	d := fresh(t, 100)
	d.Replace("a.s", frame(gen(1<<40-1)...))
	j := open(t, d)
	want(t, []api.Errno{j.Compact([]byte{1}), j.Compact([]byte{2}), j.Append([]byte{3})}, api.OK, api.ErrFull, api.OK)
	if j.Gen() != 1<<40 || !bytes.Equal(j.Snap(), []byte{1}) || j.Broken() {
		t.Error(j.Gen(), j.Snap())
	}
	if k := open(t, d); k.Gen() != 1<<40 || len(k.Records()) != 1 {
		t.Error(k.Gen())
	}
}

// P15.2, P15.3: as long as may be.
func TestLongest(t *testing.T) {
	d := fresh(t, 200000)
	j := open(t, d)
	want(t, []api.Errno{j.Append(make([]byte, 60000)), j.Compact(make([]byte, 59992)), j.Append(make([]byte, 60000))}, api.OK, api.OK, api.OK)
	if k := open(t, d); len(k.Snap()) != 59992 || len(k.Records()) != 1 || len(k.Records()[0]) != 60000 {
		t.Error(len(k.Snap()), len(k.Records()))
	}
}

// story is what a journal must have: the snapshot and records that are firm, those that may be, and a Compact under way.
type story struct {
	firm, all []string
	under     []string // behind a Compact that did not answer OK: what there is, if it came through
}

// P15.5: behind a crash, wherever it came.
func TestWhatFollows(t *testing.T) {
	rnd := rand.New(rand.NewSource(1))
	crashes := 0
	for range 3000 {
		d := fresh(t, 1000000)
		j := open(t, d)
		s := story{firm: []string{""}, all: []string{""}}
		if rnd.Intn(4) > 0 {
			d.Fuse(rnd.Intn(20))
		}
		for range 12 {
			b := bytes.Repeat([]byte{'a' + byte(rnd.Intn(26))}, rnd.Intn(4))
			switch rnd.Intn(4) {
			case 0, 1:
				if j.Append(b) == api.OK {
					s.all = append(s.all, string(b))
				}
			case 2:
				if j.Sync() == api.OK {
					s.firm = slices.Clone(s.all)
				}
			case 3:
				was := j.Broken()
				if j.Compact(b) == api.OK {
					s = story{firm: []string{string(b)}, all: []string{string(b)}}
				} else if !was {
					s.under = []string{string(b)}
				}
			}
		}
		keep := []int{rnd.Intn(60), rnd.Intn(60)}
		d.Crash(keep)
		crashes++
		j = open(t, d)
		got := []string{string(j.Snap())}
		for _, b := range j.Records() {
			got = append(got, string(b))
		}
		old := len(got) >= len(s.firm) && len(got) <= len(s.all) && slices.Equal(got, s.all[:len(got)])
		if !old && (s.under == nil || !slices.Equal(got, s.under)) {
			t.Fatal(s, got)
		}
		if again := open(t, d); text(again) != text(j) {
			t.Fatal(text(again), text(j))
		}
	}
}

// What is handed in is not kept, what is told is new memory.
func TestMemory(t *testing.T) {
	j := open(t, fresh(t, 1000))
	in := []byte{1, 2, 3}
	j.Compact(in[:2])
	j.Append(in[:2])
	j.Append(in[:1])
	in[0] = 9
	snap, records := j.Snap(), j.Records()
	snap[0] = 9
	records[0][0] = 9
	_, _ = append(snap, 9), append(records[0], 9, 9, 9)
	_ = append(records, nil)
	if text(j) != "1|\x01\x02|\x01\x02|\x01" || in[2] != 3 || records[1][0] != 1 {
		t.Error(text(j), in)
	}
}
