package effect_test

import (
	"bytes"
	"math"
	"math/rand"
	"slices"
	"testing"

	"tributary/api"
	"tributary/effect"
)

var long = bytes.Repeat([]byte{7}, 1000)

func file(mode int, b ...byte) api.Effect {
	return api.Effect{Kind: api.KindFile, Mode: mode, Bytes: b}
}

// P4.1: what may be.
func TestCheck(t *testing.T) {
	for _, e := range []api.Effect{file(0), file(511), file(420, 7, 8), file(0, long...), {Kind: api.KindDir}, {Kind: api.KindDir, Mode: 511}, {Kind: api.KindDir, Bytes: []byte{}}, {Kind: api.KindGone}} {
		if effect.Check(e) != api.OK {
			t.Error(e)
		}
		if b, err := effect.Bytes(e); err != api.OK || len(b) < 3 {
			t.Error(e, b, err)
		}
	}
	for _, e := range []api.Effect{{}, {Kind: -1}, {Kind: 4}, {Kind: math.MaxInt}, {Kind: math.MinInt}, {Mode: 1}, file(-1), file(512), file(math.MinInt), file(0, append(long, 1)...),
		{Kind: api.KindDir, Mode: -1}, {Kind: api.KindDir, Mode: 512}, {Kind: api.KindDir, Bytes: []byte{1}}, {Kind: api.KindGone, Mode: 1}, {Kind: api.KindGone, Mode: -1}, {Kind: api.KindGone, Bytes: []byte{1}}} {
		if effect.Check(e) != api.ErrArg {
			t.Error(e)
		}
		if b, err := effect.Bytes(e); err != api.ErrArg || len(b) > 0 {
			t.Error(e, b, err)
		}
	}
}

// P4.1: which are the same, and how much they take, whether they may be or not.
func TestSameSize(t *testing.T) {
	all := []api.Effect{{}, file(0), file(1), file(0, 0), file(0, 7), file(0, 7, 8), {Kind: api.KindDir}, {Kind: api.KindDir, Mode: 1}, {Kind: api.KindGone}, {Kind: 9, Mode: -5, Bytes: []byte{1}}}
	for i, a := range all {
		for j, b := range all {
			if effect.Same(a, b) != (i == j) {
				t.Error(a, b)
			}
		}
		if effect.Size(a) != 16+len(a.Bytes) {
			t.Error(a)
		}
	}
	if !effect.Same(api.Effect{Kind: 2, Bytes: []byte{}}, api.Effect{Kind: 2}) {
		t.Error("nil and empty are the same")
	}
}

// P4.1: the bytes.
func TestBytes(t *testing.T) {
	for _, x := range []struct {
		e    api.Effect
		want []byte
	}{
		{file(420, 7, 8), []byte{1, 1, 2, 1, 164, 1, 2, 7, 8}},
		{api.Effect{Kind: api.KindGone}, []byte{1, 3, 0, 0}},
		{api.Effect{Kind: api.KindDir, Mode: 5}, []byte{1, 2, 1, 5, 0}},
	} {
		b, err := effect.Bytes(x.e)
		if err != api.OK || !bytes.Equal(b, x.want) {
			t.Error(x.e, b, err)
		}
		e, fault := effect.Read(b)
		if !effect.Same(e, x.e) || fault != (api.Fault{}) {
			t.Error(b, e, fault)
		}
	}
}

// P4.2: what is not read.
func TestRead(t *testing.T) {
	over := append([]byte{1, 1, 0, 2, 3, 233}, append(long, 1)...)
	for _, x := range []struct {
		b   []byte
		err api.Errno
		at  int
	}{
		{nil, api.ErrBytes, 0},
		{[]byte{0}, api.ErrRange, 0},
		{[]byte{1, 4, 0, 0}, api.ErrRange, 0},
		{[]byte{1, 0, 0, 0}, api.ErrArg, 0},
		{[]byte{9}, api.ErrArg, 0},
		{[]byte{1, 1}, api.ErrBytes, 2},
		{[]byte{1, 1, 2, 2, 0, 0}, api.ErrRange, 2},
		{[]byte{1, 1, 2, 1, 255}, api.ErrBytes, 5},
		{over, api.ErrLong, 3},
		{[]byte{1, 1, 0, 1, 2, 7}, api.ErrBytes, 6},
		{[]byte{1, 3, 0, 0, 0}, api.ErrBytes, 4},
		{[]byte{1, 3, 1, 1, 0}, api.ErrArg, 0},
		{[]byte{1, 3, 0, 1, 1, 1}, api.ErrArg, 0},
		{[]byte{1, 2, 0, 1, 1, 1}, api.ErrArg, 0},
		{[]byte{1, 3, 1, 1, 0, 0}, api.ErrBytes, 5},
	} {
		if e, fault := effect.Read(x.b); !effect.Same(e, api.Effect{}) || fault != (api.Fault{Err: x.err, At: x.at}) {
			t.Error(x.b, e, fault)
		}
	}
}

// P4.3: by Kind, then by Mode, then by Bytes.
func TestLess(t *testing.T) {
	rising := []api.Effect{{Kind: -1, Mode: 9}, {}, file(-1, 9), file(0), file(0, 0), file(0, 1), file(0, 1, 0), file(0, 1, 5), file(0, 2), file(0, 255), file(1), file(1, 7), file(1, 7, 8), file(2),
		{Kind: api.KindDir}, {Kind: api.KindDir, Mode: 1}, {Kind: api.KindGone}, {Kind: api.KindGone, Bytes: []byte{1}}}
	for i, a := range rising {
		for j, b := range rising {
			if effect.Less(a, b) != (i < j) {
				t.Error(a, b)
			}
		}
	}
}

// P4.4: bytes are read as their effect, and told as it.
func TestThereAndBack(t *testing.T) {
	rnd := rand.New(rand.NewSource(1))
	read := 0
	for range 50000 {
		b := []byte{1, byte(rnd.Intn(4)), 0, byte(rnd.Intn(2)), 1, 1}[:3+rnd.Intn(4)]
		if rnd.Intn(2) == 0 {
			b = slices.Insert(b, 2, byte(rnd.Intn(3)), byte(rnd.Intn(256)))
		}
		e, fault := effect.Read(b)
		if fault.Err != api.OK {
			continue
		}
		read++
		if back, err := effect.Bytes(e); err != api.OK || !bytes.Equal(back, b) || effect.Check(e) != api.OK {
			t.Fatal(b, e, back)
		}
	}
	if read < 100 {
		t.Error("too few:", read)
	}
}

// What is read is new memory.
func TestNew(t *testing.T) {
	in := []byte{1, 1, 0, 1, 2, 7, 8}
	e, _ := effect.Read(in)
	e.Bytes[0] = 9
	_ = append(e.Bytes, 9)
	if in[5] != 7 {
		t.Error(in)
	}
	b, _ := effect.Bytes(e)
	b[5] = 1
	if e.Bytes[0] != 9 {
		t.Error(e)
	}
}
