package print_test

import (
	"encoding/binary"
	"hash/fnv"
	"math"
	"math/rand"
	"strings"
	"testing"

	"tributary/api"
	"tributary/print"
)

// known tells the fingerprint as the library of the language tells it.
func known(b []byte) uint64 {
	h := fnv.New64a()
	h.Write(b)
	return h.Sum64()
}

func bytesOf(rnd *rand.Rand, most int) []byte {
	b := make([]byte, rnd.Intn(most))
	rnd.Read(b)
	return b
}

// P2.1: the fingerprint.
func TestSum(t *testing.T) {
	if print.Start() != 14695981039346656037 || print.Sum(nil) != print.Start() || print.Mix(nil) != print.Start() {
		t.Error(print.Start(), print.Sum(nil), print.Mix(nil))
	}
	for s, want := range map[string]string{"": "cbf29ce484222325", "a": "af63dc4c8601ec8c", "foobar": "85944171f73967e8"} {
		if got := print.Text(print.Sum([]byte(s))); got != want {
			t.Error(s, got)
		}
	}
	rnd := rand.New(rand.NewSource(1))
	for range 500 {
		if b := bytesOf(rnd, 70); print.Sum(b) != known(b) {
			t.Fatal(b)
		}
	}
}

// P2.1: numbers are eight bytes each, the highest first.
func TestMix(t *testing.T) {
	if print.Mix([]uint64{97}) != print.Sum([]byte{0, 0, 0, 0, 0, 0, 0, 97}) {
		t.Error("97")
	}
	rnd := rand.New(rand.NewSource(2))
	for range 300 {
		l, b := make([]uint64, rnd.Intn(5)), []byte(nil)
		for i := range l {
			l[i] = rnd.Uint64()
			b = binary.BigEndian.AppendUint64(b, l[i])
		}
		if print.Mix(l) != known(b) {
			t.Fatal(l)
		}
	}
}

// P2.1, P2.3: it does not matter in which pieces bytes come.
func TestPieces(t *testing.T) {
	rnd := rand.New(rand.NewSource(3))
	for range 500 {
		b := bytesOf(rnd, 50)
		state := print.Start()
		for rest := b; len(rest) > 0; {
			n := rnd.Intn(len(rest) + 1)
			state, rest = print.More(state, rest[:n]), rest[n:]
		}
		if state != print.Sum(b) {
			t.Fatal(b)
		}
	}
	if print.More(5, nil) != 5 || print.More(0, []byte{0}) != 0 || print.More(0, []byte{1}) != 1099511628211 {
		t.Error("More")
	}
}

// P2.3: just one byte makes it another one.
func TestOneByte(t *testing.T) {
	b := []byte("some bytes of one length")
	sum := print.Sum(b)
	for i := range b {
		for x := range 256 {
			was := b[i]
			b[i] = byte(x)
			if (print.Sum(b) == sum) != (b[i] == was) {
				t.Fatal(i, x)
			}
			b[i] = was
		}
	}
}

// P2.2: the text.
func TestText(t *testing.T) {
	for n, want := range map[uint64]string{0: "0000000000000000", 1: "0000000000000001", 0xabcdef: "0000000000abcdef", math.MaxUint64: "ffffffffffffffff", 0x0123456789abcdef: "0123456789abcdef"} {
		if got := print.Text(n); got != want {
			t.Error(n, got)
		}
		if got, fault := print.Parse(want); got != n || fault != (api.Fault{}) {
			t.Error(want, got, fault)
		}
	}
}

// P2.2: texts that are none.
func TestParse(t *testing.T) {
	for _, x := range []struct {
		s   string
		err api.Errno
		at  int
	}{
		{"", api.ErrBytes, 0},
		{"0", api.ErrBytes, 1},
		{strings.Repeat("G", 15), api.ErrBytes, 15},
		{strings.Repeat("0", 17), api.ErrBytes, 16},
		{strings.Repeat("G", 40), api.ErrBytes, 16},
		{strings.Repeat("G", 16), api.ErrArg, 0},
		{"000000000000000A", api.ErrArg, 15},
		{"0000g000x0000000", api.ErrArg, 4},
		{"00000000/0000000", api.ErrArg, 8},
		{":000000000000000", api.ErrArg, 0},
		{"0`00000000000000", api.ErrArg, 1},
		{" 000000000000000", api.ErrArg, 0},
		{"+000000000000000", api.ErrArg, 0},
		{"00000000000000\xc3\xa9", api.ErrArg, 14},
		{"000000000000000\xff", api.ErrArg, 15},
	} {
		if n, fault := print.Parse(x.s); n != 0 || fault != (api.Fault{Err: x.err, At: x.at}) {
			t.Error(x.s, n, fault)
		}
	}
}

// P2.3: a text is read as its fingerprint, and what is read is told as that text.
func TestThereAndBack(t *testing.T) {
	rnd := rand.New(rand.NewSource(4))
	for range 1000 {
		n := rnd.Uint64() >> rnd.Intn(64)
		if got, fault := print.Parse(print.Text(n)); got != n || fault.Err != api.OK {
			t.Fatal(n, got, fault)
		}
		s := make([]byte, 16)
		for i := range s {
			s[i] = "0123456789abcdefG"[rnd.Intn(17)]
		}
		if got, fault := print.Parse(string(s)); fault.Err == api.OK && print.Text(got) != string(s) {
			t.Fatal(string(s), got)
		}
	}
}
