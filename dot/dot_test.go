package dot_test

import (
	"bytes"
	"math"
	"math/rand"
	"slices"
	"testing"

	"tributary/api"
	"tributary/dot"
)

func of(node, seq int) api.Dot { return api.Dot{Node: node, Seq: seq} }

var good = []api.Dot{of(1, 1), of(3, 258), of(200, 2147483647), of(200, 1), of(1, 2147483647), of(7, 65536)}

var bad = []api.Dot{{}, of(0, 1), of(201, 1), of(1, 0), of(-1, 1), of(1, -1), of(1, 2147483648), of(math.MaxInt, 1), of(1, math.MaxInt), of(math.MinInt, math.MinInt), of(257, 1), of(1, 1<<32+1)}

// P6.1, P6.2, P6.3: what may be, and what is told of what may not.
func TestCheck(t *testing.T) {
	for _, d := range good {
		if dot.Check(d) != api.OK {
			t.Error(d)
		}
	}
	for _, d := range bad {
		next, e1 := dot.Next(d)
		b, e2 := dot.Bytes(d)
		s, e3 := dot.Text(d)
		if dot.Check(d) != api.ErrArg || e1 != api.ErrArg || e2 != api.ErrArg || e3 != api.ErrArg || next != (api.Dot{}) || len(b) > 0 || s != "" {
			t.Error(d, next, e1, b, e2, s, e3)
		}
	}
}

// P6.1: the order of any dots.
func TestLess(t *testing.T) {
	rising := []api.Dot{of(math.MinInt, 5), of(-1, -1), of(0, 0), of(0, 1), of(1, -7), of(1, 1), of(1, 2), of(1, 300), of(2, 1), of(2, 258), of(200, 1), of(math.MaxInt, math.MaxInt)}
	for i, a := range rising {
		for j, b := range rising {
			if dot.Less(a, b) != (i < j) {
				t.Error(a, b)
			}
		}
	}
}

// P6.1: the next one.
func TestNext(t *testing.T) {
	if d, err := dot.Next(of(3, 258)); d != of(3, 259) || err != api.OK {
		t.Error(d, err)
	}
	if d, err := dot.Next(of(200, 2147483646)); d != of(200, 2147483647) || err != api.OK {
		t.Error(d, err)
	}
	if d, err := dot.Next(of(3, 2147483647)); d != (api.Dot{}) || err != api.ErrRange {
		t.Error(d, err)
	}
}

// P6.1: each once, in order; what was handed in stays.
func TestSort(t *testing.T) {
	in := []api.Dot{of(2, 1), of(1, 9), of(2, 1), of(0, 0), of(1, 10), of(9, 9)}[:5]
	got := dot.Sort(in)
	if !slices.Equal(got, []api.Dot{of(0, 0), of(1, 9), of(1, 10), of(2, 1)}) {
		t.Error(got)
	}
	_ = append(got, of(8, 8), of(8, 8))
	got[0] = of(7, 7)
	if !slices.Equal(in[:6], []api.Dot{of(2, 1), of(1, 9), of(2, 1), of(0, 0), of(1, 10), of(9, 9)}) || len(dot.Sort(nil)) > 0 {
		t.Error(in)
	}
}

// P6.2: the bytes.
func TestBytes(t *testing.T) {
	for d, want := range map[api.Dot][]byte{of(3, 258): {3, 0, 0, 1, 2}, of(200, 2147483647): {200, 127, 255, 255, 255}, of(1, 0x01020304): {1, 1, 2, 3, 4}} {
		b, err := dot.Bytes(d)
		if err != api.OK || !bytes.Equal(b, want) {
			t.Error(d, b, err)
		}
	}
	for _, x := range []struct {
		b   []byte
		err api.Errno
		at  int
	}{
		{nil, api.ErrBytes, 0}, {[]byte{0}, api.ErrBytes, 1}, {[]byte{3, 0, 0, 1}, api.ErrBytes, 4}, {[]byte{3, 0, 0, 1, 2, 0}, api.ErrBytes, 5}, {make([]byte, 9), api.ErrBytes, 5},
		{[]byte{0, 0, 0, 0, 1}, api.ErrArg, 0}, {[]byte{201, 0, 0, 0, 1}, api.ErrArg, 0}, {[]byte{1, 0, 0, 0, 0}, api.ErrArg, 0}, {[]byte{1, 128, 0, 0, 0}, api.ErrArg, 0}, {[]byte{1, 255, 255, 255, 255}, api.ErrArg, 0},
	} {
		if d, fault := dot.Read(x.b); d != (api.Dot{}) || fault != (api.Fault{Err: x.err, At: x.at}) {
			t.Error(x.b, d, fault)
		}
	}
}

// P6.3: the text.
func TestText(t *testing.T) {
	for d, want := range map[api.Dot]string{of(3, 258): "3.258", of(200, 2147483647): "200.2147483647", of(1, 1): "1.1"} {
		if s, err := dot.Text(d); s != want || err != api.OK {
			t.Error(d, s, err)
		}
	}
	for _, s := range []string{"", ".", "3.", ".1", "03.1", "3.01", "+3.1", "3.+1", "-3.1", "3.-1", "3.1 ", " 3.1", "3 .1", "0.1", "201.1", "3.0", "3.2147483648", "3.4294967297", "4294967299.1", "3.1.1", "3,1", "31", "3..1", "0x3.1", "3_0.1", "3.99999999999999999999999", "3.1\x00", "a.b"} {
		if d, err := dot.Parse(s); d != (api.Dot{}) || err != api.ErrArg {
			t.Error(s, d, err)
		}
	}
}

// P6.4: bytes and texts are read as their dot, and the order is that of the bytes.
func TestThereAndBack(t *testing.T) {
	rnd := rand.New(rand.NewSource(1))
	l := slices.Clone(good)
	for range 300 {
		l = append(l, of(1+rnd.Intn(200), 1+rnd.Intn(api.MaxSeq)>>rnd.Intn(31)))
	}
	for i, d := range l {
		b, _ := dot.Bytes(d)
		s, _ := dot.Text(d)
		if got, fault := dot.Read(b); got != d || fault != (api.Fault{}) {
			t.Fatal(d, got, fault)
		}
		if got, err := dot.Parse(s); got != d || err != api.OK {
			t.Fatal(d, got, err)
		}
		other := l[(i*7+3)%len(l)]
		c, _ := dot.Bytes(other)
		if dot.Less(d, other) != (bytes.Compare(b, c) < 0) {
			t.Fatal(d, other)
		}
	}
	for range 2000 {
		b := make([]byte, 5)
		rnd.Read(b)
		if d, fault := dot.Read(b); fault.Err == api.OK {
			if back, err := dot.Bytes(d); err != api.OK || !bytes.Equal(back, b) {
				t.Fatal(b, d, back)
			}
		}
	}
}
