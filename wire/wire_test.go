package wire_test

import (
	"bytes"
	"math"
	"math/rand"
	"strings"
	"testing"

	"tributary/api"
	"tributary/wire"
)

const greatest = 1<<62 - 1

// written tells what comes of some writes.
func written(put func(w *wire.Writer)) ([]byte, api.Errno) {
	w := wire.New()
	put(w)
	return w.Out()
}

// P1.1: each thing's form.
func TestForms(t *testing.T) {
	for i, x := range []struct {
		put  func(w *wire.Writer)
		want []byte
	}{
		{func(w *wire.Writer) {}, nil},
		{func(w *wire.Writer) { w.Num(0) }, []byte{0}},
		{func(w *wire.Writer) { w.Num(1) }, []byte{1, 1}},
		{func(w *wire.Writer) { w.Num(255) }, []byte{1, 255}},
		{func(w *wire.Writer) { w.Num(256) }, []byte{2, 1, 0}},
		{func(w *wire.Writer) { w.Num(65535) }, []byte{2, 255, 255}},
		{func(w *wire.Writer) { w.Num(65536) }, []byte{3, 1, 0, 0}},
		{func(w *wire.Writer) { w.Num(0x0102030405060708) }, []byte{8, 1, 2, 3, 4, 5, 6, 7, 8}},
		{func(w *wire.Writer) { w.Num(greatest) }, []byte{8, 63, 255, 255, 255, 255, 255, 255, 255}},
		{func(w *wire.Writer) { w.Text("ab") }, []byte{1, 2, 97, 98}},
		{func(w *wire.Writer) { w.Text("") }, []byte{0}},
		{func(w *wire.Writer) { w.Text("\x00\xff") }, []byte{1, 2, 0, 255}},
		{func(w *wire.Writer) { w.Raw([]byte{7}) }, []byte{1, 1, 7}},
		{func(w *wire.Writer) { w.Raw(nil) }, []byte{0}},
		{func(w *wire.Writer) { w.Num(5); w.Text("x"); w.Raw([]byte{0}); w.Num(0) }, []byte{1, 5, 1, 1, 120, 1, 1, 0, 0}},
	} {
		b, e := written(x.put)
		if e != api.OK || !bytes.Equal(b, x.want) {
			t.Error(i, b, e)
		}
	}
	long, e := written(func(w *wire.Writer) { w.Text(strings.Repeat("x", 300)) })
	if e != api.OK || len(long) != 303 || !bytes.Equal(long[:4], []byte{2, 1, 44, 120}) {
		t.Error(len(long), e)
	}
}

// P1.1: what can't be written, and that the first error stays.
func TestWriterErrors(t *testing.T) {
	const room = 1 << 20
	for i, x := range []struct {
		put  func(w *wire.Writer)
		want api.Errno
	}{
		{func(w *wire.Writer) { w.Num(-1) }, api.ErrRange},
		{func(w *wire.Writer) { w.Num(math.MinInt) }, api.ErrRange},
		{func(w *wire.Writer) { w.Num(greatest + 1) }, api.ErrRange},
		{func(w *wire.Writer) { w.Num(math.MaxInt) }, api.ErrRange},
		{func(w *wire.Writer) { w.Raw(make([]byte, room)) }, api.ErrLong},
		{func(w *wire.Writer) { w.Raw(make([]byte, room-3)) }, api.ErrLong},
		{func(w *wire.Writer) { w.Raw(make([]byte, room-4)) }, api.OK},
		{func(w *wire.Writer) { w.Text(strings.Repeat("a", room-3)) }, api.ErrLong},
		{func(w *wire.Writer) { w.Text(strings.Repeat("a", room-4)) }, api.OK},
		{func(w *wire.Writer) { w.Raw(make([]byte, room-4)); w.Num(0) }, api.ErrLong},
		{func(w *wire.Writer) { w.Raw(make([]byte, room-5)); w.Num(0) }, api.OK},
		{func(w *wire.Writer) { w.Raw(make([]byte, room-5)); w.Num(1) }, api.ErrLong},
		{func(w *wire.Writer) { w.Raw(make([]byte, room-6)); w.Num(1) }, api.OK},
		{func(w *wire.Writer) { w.Raw(make([]byte, room-6)); w.Num(255); w.Raw(nil) }, api.ErrLong},
		{func(w *wire.Writer) { w.Num(-1); w.Raw(make([]byte, room)) }, api.ErrRange},
		{func(w *wire.Writer) { w.Num(-1); w.Text(strings.Repeat("a", room)) }, api.ErrRange},
		{func(w *wire.Writer) { w.Raw(make([]byte, room)); w.Num(-1) }, api.ErrLong},
		{func(w *wire.Writer) { w.Num(3); w.Num(-1); w.Num(4); w.Text("x"); w.Raw(nil) }, api.ErrRange},
	} {
		b, e := written(x.put)
		if e != x.want || e != api.OK && len(b) > 0 {
			t.Error(i, e, len(b))
		}
	}
}

// P1.1: Out may be asked again, and hands out new memory.
func TestOutIsNew(t *testing.T) {
	w := wire.New()
	in := []byte{1, 2, 3, 4}
	w.Raw(in[:2])
	a, _ := w.Out()
	in[0] = 9
	a[2] = 9
	_ = append(a, 9, 9, 9)
	w.Num(5)
	b, _ := w.Out()
	if !bytes.Equal(b, []byte{1, 2, 1, 2, 1, 5}) || in[2] != 3 {
		t.Error(b, in)
	}
}

// P1.1, P1.4: writers and readers that nobody made.
func TestNone(t *testing.T) {
	made := wire.New()
	made.Num(1)
	copied := *made
	for i, w := range []*wire.Writer{nil, {}, &copied} {
		w.Num(1)
		w.Text("a")
		w.Raw([]byte{1})
		if b, e := w.Out(); e != api.ErrNil || len(b) > 0 {
			t.Error(i, b, e)
		}
	}
	opened := wire.Open([]byte{1, 7, 1, 1, 2, 3})
	opened.Num(0, 9)
	twin := *opened
	none := api.Fault{Err: api.ErrNil}
	for i, r := range []*wire.Reader{nil, {}, &twin} {
		if r.Num(0, 9) != 0 || r.Text(9) != "" || len(r.Raw(9)) > 0 || r.At() != 0 || r.Left() != 0 {
			t.Error(i)
		}
		if r.Fault() != none || r.End() != none {
			t.Error(i, r.Fault(), r.End())
		}
	}
}

// P1.2, P1.3: faults, and where they are; behind one nothing is read any more.
func TestFaults(t *testing.T) {
	num := func(low, high int) func(r *wire.Reader) bool {
		return func(r *wire.Reader) bool { return r.Num(low, high) == 0 }
	}
	text := func(most int) func(r *wire.Reader) bool {
		return func(r *wire.Reader) bool { return r.Text(most) == "" }
	}
	raw := func(most int) func(r *wire.Reader) bool {
		return func(r *wire.Reader) bool { return len(r.Raw(most)) == 0 }
	}
	over := []byte{8, 64, 0, 0, 0, 0, 0, 0, 0}
	huge := []byte{8, 255, 255, 255, 255, 255, 255, 255, 255}
	for i, x := range []struct {
		b    []byte
		read func(r *wire.Reader) bool
		err  api.Errno
		at   int
	}{
		{nil, num(0, 9), api.ErrBytes, 0},
		{[]byte{1}, num(0, 9), api.ErrBytes, 1},
		{[]byte{2, 0}, num(0, 9), api.ErrBytes, 2},
		{[]byte{8, 1, 2, 3}, num(0, 9), api.ErrBytes, 4},
		{[]byte{9}, num(0, 9), api.ErrArg, 0},
		{[]byte{255, 1}, num(0, 9), api.ErrArg, 0},
		{[]byte{1, 0}, num(0, 9), api.ErrArg, 0},
		{[]byte{2, 0, 9}, num(0, 9), api.ErrArg, 0},
		{[]byte{1, 5}, num(6, 9), api.ErrRange, 0},
		{[]byte{1, 5}, num(0, 4), api.ErrRange, 0},
		{[]byte{1, 5}, num(9, 0), api.ErrRange, 0},
		{[]byte{0}, num(1, 9), api.ErrRange, 0},
		{[]byte{0}, num(-9, -1), api.ErrRange, 0},
		{over, num(0, math.MaxInt), api.ErrRange, 0},
		{huge, num(math.MinInt, math.MaxInt), api.ErrRange, 0},
		{nil, text(9), api.ErrBytes, 0},
		{[]byte{9}, text(9), api.ErrArg, 0},
		{[]byte{1, 0}, raw(9), api.ErrArg, 0},
		{over, text(math.MaxInt), api.ErrRange, 0},
		{[]byte{1, 2, 97}, text(9), api.ErrBytes, 3},
		{[]byte{1, 2, 97}, text(1), api.ErrLong, 0},
		{[]byte{1, 2, 97}, text(2), api.ErrBytes, 3},
		{[]byte{1, 2, 97}, raw(9), api.ErrBytes, 3},
		{[]byte{1, 2, 97}, raw(1), api.ErrLong, 0},
		{[]byte{0}, raw(-1), api.ErrLong, 0},
		{nil, raw(-1), api.ErrBytes, 0},
		{[]byte{9}, text(-1), api.ErrArg, 0},
		{[]byte{1, 0}, raw(-1), api.ErrArg, 0},
		{[]byte{0}, text(math.MinInt), api.ErrLong, 0},
		{[]byte{8, 63, 255, 255, 255, 255, 255, 255, 255}, raw(greatest), api.ErrBytes, 9},
	} {
		for shift := range 2 {
			b := append(make([]byte, shift), x.b...)
			r := wire.Open(b)
			for range shift {
				r.Num(0, 0)
			}
			want := api.Fault{Err: x.err, At: x.at + shift}
			if !x.read(r) || r.Fault() != want || r.End() != want || r.At() != shift || r.Left() != len(x.b) {
				t.Error(i, shift, r.Fault(), r.End(), r.At(), r.Left())
			}
			if r.Num(0, greatest) != 0 || r.Text(99) != "" || len(r.Raw(99)) > 0 || r.Fault() != want || r.At() != shift {
				t.Error(i, shift, "behind a fault something was read")
			}
		}
	}
}

// P1.2, P1.3, P1.4: what is there is read, and the place goes on.
func TestRead(t *testing.T) {
	r := wire.Open([]byte{2, 1, 0, 1, 2, 97, 98, 1, 3, 7, 8, 9, 0, 0})
	if r.At() != 0 || r.Left() != 14 {
		t.Error(r.At(), r.Left())
	}
	if n := r.Num(256, 256); n != 256 || r.At() != 3 || r.Left() != 11 {
		t.Error(n, r.At())
	}
	if s := r.Text(2); s != "ab" || r.At() != 7 {
		t.Error(s, r.At())
	}
	if r.End() != (api.Fault{Err: api.ErrBytes, At: 7}) || r.Fault() != (api.Fault{}) {
		t.Error(r.End(), r.Fault())
	}
	if b := r.Raw(3); !bytes.Equal(b, []byte{7, 8, 9}) || r.At() != 12 {
		t.Error(b, r.At())
	}
	if r.Raw(0) == nil && r.Text(0) == "" && r.At() != 14 {
		t.Error(r.At())
	}
	r = wire.Open([]byte{8, 63, 255, 255, 255, 255, 255, 255, 255})
	if n := r.Num(0, math.MaxInt); n != greatest || r.End() != (api.Fault{}) || r.Left() != 0 {
		t.Error(n, r.End())
	}
	if r = wire.Open(nil); r.End() != (api.Fault{}) || r.Fault() != (api.Fault{}) {
		t.Error(r.End())
	}
}

// A reader keeps nothing of what it was handed, and hands out new memory.
func TestReaderIsNew(t *testing.T) {
	in := []byte{1, 2, 5, 6, 1, 1, 7}
	r := wire.Open(in)
	in[2] = 99
	a := r.Raw(2)
	if !bytes.Equal(a, []byte{5, 6}) {
		t.Error(a)
	}
	_ = append(a, 9, 9, 9)
	a[0] = 9
	if b := r.Raw(1); !bytes.Equal(b, []byte{7}) || a[1] != 6 || in[4] != 1 {
		t.Error(a, b)
	}
	r = wire.Open([]byte{1, 1, 5})
	if a = r.Raw(1); a[0] != 5 {
		t.Error(a)
	}
}

// P1.5: things are read as they were written.
func TestThereAndBack(t *testing.T) {
	rnd := rand.New(rand.NewSource(1))
	for range 2000 {
		n := rnd.Intn(greatest) >> rnd.Intn(62)
		s := make([]byte, rnd.Intn(300))
		rnd.Read(s)
		b, e := written(func(w *wire.Writer) { w.Num(n); w.Text(string(s)); w.Raw(s); w.Num(n) })
		r := wire.Open(b)
		if e != api.OK || r.Num(0, greatest) != n || r.Text(300) != string(s) || !bytes.Equal(r.Raw(300), s) || r.Num(n, n) != n || r.End() != (api.Fault{}) {
			t.Fatal(n, s, r.End())
		}
	}
}

// P1.5: what is read is written as the bytes that it was read from.
func TestOneForm(t *testing.T) {
	rnd := rand.New(rand.NewSource(2))
	read := 0
	for range 20000 {
		b := make([]byte, 1+rnd.Intn(6))
		for i := range b {
			b[i] = byte(rnd.Intn(5))
		}
		r := wire.Open(b)
		n, s := r.Num(0, greatest), r.Text(9)
		if r.End().Err != api.OK {
			continue
		}
		read++
		if back, e := written(func(w *wire.Writer) { w.Num(n); w.Text(s) }); e != api.OK || !bytes.Equal(back, b) {
			t.Fatal(b, back)
		}
	}
	if read < 100 {
		t.Error("too few were read:", read)
	}
}
