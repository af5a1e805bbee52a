package past_test

import (
	"bytes"
	"math"
	"math/rand"
	"slices"
	"testing"

	"tributary/api"
	"tributary/past"
)

func of(node, seq int) api.Dot { return api.Dot{Node: node, Seq: seq} }

func span(node, from, to int) api.Span { return api.Span{Node: node, From: from, To: to} }

// spans makes a list of spans from three numbers each.
func spans(n ...int) []api.Span {
	var l []api.Span
	for c := range slices.Chunk(n, 3) {
		l = append(l, span(c[0], c[1], c[2]))
	}
	return l
}

// odd tells a past of so many spans, each of one dot of the node, from a number on.
func odd(node, from, n int) []api.Span {
	var l []api.Span
	for i := range n {
		l = append(l, span(node, from+2*i, from+2*i))
	}
	return l
}

var noPasts = [][]api.Span{
	spans(1, 1, 2, 1, 3, 4), spans(2, 1, 1, 1, 1, 1), spans(1, 2, 1), spans(0, 1, 1), spans(201, 1, 1), spans(1, 0, 1), spans(1, -1, 1), spans(1, 1, api.MaxSeq+1),
	spans(1, 1, 5, 1, 3, 9), spans(1, 1, 5, 1, 7, 6), spans(1, 5, 6, 1, 1, 2), spans(1, 1, 1, 1, 1, 1), spans(1, 1, math.MaxInt), spans(math.MinInt, 1, 1), spans(1, math.MinInt, math.MaxInt),
	odd(1, 1, 4001), spans(2, 1, 1, 1, 5, 5),
}

var pasts = [][]api.Span{
	nil, {}, spans(1, 1, 1), spans(1, 1, 3, 2, 5, 5), spans(1, 1, 3, 1, 5, 5), spans(200, 1, api.MaxSeq), spans(1, 2, 2, 2, 1, 1), spans(1, 9, 9, 2, 1, 1), odd(1, 1, 4000),
}

// P7.1, P7.2, P7.3, P7.4: what may be; and what is told of what may not.
func TestCheck(t *testing.T) {
	for i, l := range pasts {
		if past.Check(l) != api.OK {
			t.Error(i)
		}
	}
	for i, l := range noPasts {
		a, e1 := past.Add(l, of(9, 1))
		j1, e2 := past.Join(l, nil)
		j2, e3 := past.Join(nil, l)
		m1, e4 := past.Minus(l, nil)
		m2, e5 := past.Minus(nil, l)
		b, e6 := past.Bytes(l)
		for _, err := range []api.Errno{past.Check(l), e1, e2, e3, e4, e5, e6} {
			if err != api.ErrArg {
				t.Error(i, err)
			}
		}
		if len(a)+len(j1)+len(j2)+len(m1)+len(m2)+len(b) > 0 {
			t.Error(i, "something was told beside an error")
		}
		if past.Has(l, of(1, 1)) || past.Count(l) != 0 || past.Last(l, 1) != 0 || past.Within(l, l) || past.Within(nil, l) || past.Within(l, pasts[8]) {
			t.Error(i)
		}
	}
}

// P7.1: the past of dots.
func TestOf(t *testing.T) {
	l, err := past.Of([]api.Dot{of(1, 3), of(1, 1), of(1, 2), of(2, 5), of(1, 1)})
	if err != api.OK || !slices.Equal(l, spans(1, 1, 3, 2, 5, 5)) {
		t.Error(l, err)
	}
	if l, err := past.Of(nil); err != api.OK || len(l) > 0 {
		t.Error(l, err)
	}
	if l, err := past.Of([]api.Dot{of(2, api.MaxSeq), of(1, api.MaxSeq), of(2, 1)}); err != api.OK || !slices.Equal(l, spans(1, api.MaxSeq, api.MaxSeq, 2, 1, 1, 2, api.MaxSeq, api.MaxSeq)) {
		t.Error(l, err)
	}
	for _, d := range []api.Dot{{}, of(0, 1), of(1, 0), of(201, 1), of(1, api.MaxSeq+1)} {
		if l, err := past.Of([]api.Dot{of(1, 1), d}); err != api.ErrArg || len(l) > 0 {
			t.Error(d, l, err)
		}
	}
	var dots []api.Dot
	for i := range 4001 {
		dots = append(dots, of(1, 2*i+1))
	}
	if l, err := past.Of(dots[:4000]); err != api.OK || len(l) != 4000 {
		t.Error(len(l), err)
	}
	if l, err := past.Of(dots); err != api.ErrFull || len(l) > 0 {
		t.Error(len(l), err)
	}
	if l, err := past.Of(append(dots, of(1, 2))); err != api.OK || len(l) != 4000 {
		t.Error(len(l), err)
	}
	if l, err := past.Of(append(dots, of(0, 2))); err != api.ErrArg || len(l) > 0 {
		t.Error(len(l), err)
	}
}

// P7.2: what is asked of a past.
func TestAsked(t *testing.T) {
	l := spans(1, 1, 3, 1, 5, 5, 2, 5, 9, 7, 4, 4)
	for d, want := range map[api.Dot]bool{of(1, 1): true, of(1, 2): true, of(1, 3): true, of(1, 4): false, of(1, 5): true, of(1, 6): false, of(2, 4): false, of(2, 5): true, of(2, 9): true, of(2, 10): false,
		of(3, 5): false, of(7, 4): true, of(7, 3): false, of(8, 4): false, of(0, 1): false, {}: false, of(-1, -1): false, of(1, math.MaxInt): false} {
		if past.Has(l, d) != want {
			t.Error(d)
		}
	}
	if past.Count(l) != 10 || past.Count(nil) != 0 || past.Count(spans(1, 1, api.MaxSeq, 2, 1, api.MaxSeq)) != 2*api.MaxSeq {
		t.Error(past.Count(l))
	}
	for node, want := range map[int]int{1: 5, 2: 9, 7: 4, 3: 0, 0: 0, -1: 0, 201: 0} {
		if past.Last(l, node) != want {
			t.Error(node, past.Last(l, node))
		}
	}
	for _, x := range []struct {
		a, b []api.Span
		want bool
	}{
		{spans(1, 2, 3), spans(1, 1, 3), true}, {spans(1, 1, 3), spans(1, 2, 3), false}, {nil, nil, true}, {nil, l, true}, {l, l, true}, {l, nil, false},
		{spans(1, 3, 5), l, false}, {spans(1, 3, 3, 1, 5, 5), l, true}, {spans(2, 1, 1), spans(1, 1, 1), false}, {spans(1, 1, 1), spans(2, 1, 1), false}, {spans(2, 9, 10), l, false},
	} {
		if past.Within(x.a, x.b) != x.want {
			t.Error(x.a, x.b)
		}
	}
}

// P7.3: with a dot, joined, and what is left.
func TestChanged(t *testing.T) {
	for _, x := range []struct {
		l    []api.Span
		d    api.Dot
		want []api.Span
		err  api.Errno
	}{
		{spans(1, 1, 3), of(1, 4), spans(1, 1, 4), api.OK},
		{spans(1, 1, 3), of(1, 5), spans(1, 1, 3, 1, 5, 5), api.OK},
		{spans(1, 1, 3, 1, 5, 6), of(1, 4), spans(1, 1, 6), api.OK},
		{spans(1, 2, 3), of(1, 1), spans(1, 1, 3), api.OK},
		{spans(1, 2, 3), of(1, 3), spans(1, 2, 3), api.OK},
		{nil, of(2, 7), spans(2, 7, 7), api.OK},
		{spans(1, 1, 3), of(1, 0), nil, api.ErrArg},
		{spans(1, 1, 3), of(0, 1), nil, api.ErrArg},
		{spans(1, 1, 3), of(201, 1), nil, api.ErrArg},
		{odd(1, 1, 4000), of(2, 1), nil, api.ErrFull},
		{odd(1, 1, 4000), of(0, 1), nil, api.ErrArg},
		{odd(1, 1, 4000), of(1, 7999), odd(1, 1, 4000), api.OK},
		{odd(1, 1, 4000), of(1, 8000), append(odd(1, 1, 3999), span(1, 7999, 8000)), api.OK},
	} {
		if l, err := past.Add(x.l, x.d); err != x.err || !slices.Equal(l, x.want) {
			t.Error(len(x.l), x.d, len(l), err)
		}
	}
	if l, err := past.Join(spans(1, 1, 2), spans(1, 3, 4)); err != api.OK || !slices.Equal(l, spans(1, 1, 4)) {
		t.Error(l, err)
	}
	if l, err := past.Minus(spans(1, 1, 9), spans(1, 3, 4)); err != api.OK || !slices.Equal(l, spans(1, 1, 2, 1, 5, 9)) {
		t.Error(l, err)
	}
	if l, err := past.Join(spans(200, 1, 2), spans(1, 1, 1, 200, 4, 4)); err != api.OK || !slices.Equal(l, spans(1, 1, 1, 200, 1, 2, 200, 4, 4)) {
		t.Error(l, err)
	}
	if l, err := past.Minus(spans(1, 1, 1, 200, 1, 5), spans(200, 2, 3)); err != api.OK || !slices.Equal(l, spans(1, 1, 1, 200, 1, 1, 200, 4, 5)) || past.Within(spans(200, 1, 1), nil) {
		t.Error(l, err)
	}
	if l, err := past.Join(odd(1, 1, 4000), odd(2, 1, 1)); err != api.ErrFull || len(l) > 0 {
		t.Error(len(l), err)
	}
	if l, err := past.Join(odd(1, 1, 4000), odd(1, 2, 4000)); err != api.OK || !slices.Equal(l, spans(1, 1, 8000)) {
		t.Error(len(l), err)
	}
	if l, err := past.Minus(spans(1, 1, 9000), odd(1, 2, 4000)); err != api.ErrFull || len(l) > 0 {
		t.Error(len(l), err)
	}
	if l, err := past.Minus(spans(1, 1, 8001), odd(1, 3, 3999)); err != api.OK || len(l) != 4000 {
		t.Error(len(l), err)
	}
	if l, err := past.Minus(spans(1, 1, 8001), odd(1, 2, 4000)); err != api.ErrFull || len(l) > 0 {
		t.Error(len(l), err)
	}
}

// P7.4: the bytes, and what is none.
func TestBytes(t *testing.T) {
	b, err := past.Bytes(spans(1, 1, 258, 200, 7, api.MaxSeq))
	if err != api.OK || !bytes.Equal(b, []byte{0, 2, 1, 0, 0, 0, 1, 0, 0, 1, 2, 200, 0, 0, 0, 7, 127, 255, 255, 255}) {
		t.Error(b, err)
	}
	big := spans(3, 0x01020304, 0x05060708)
	if b, err := past.Bytes(big); err != api.OK || !bytes.Equal(b, []byte{0, 1, 3, 1, 2, 3, 4, 5, 6, 7, 8}) {
		t.Error(b, err)
	}
	if l, fault := past.Read([]byte{0, 1, 3, 1, 2, 3, 4, 5, 6, 7, 8}); fault != (api.Fault{}) || !slices.Equal(l, big) {
		t.Error(l, fault)
	}
	if b, err := past.Bytes(nil); err != api.OK || !bytes.Equal(b, []byte{0, 0}) {
		t.Error(b, err)
	}
	if b, err := past.Bytes(odd(1, 1, 4000)); err != api.OK || len(b) != 36002 || b[0] != 15 || b[1] != 160 {
		t.Error(len(b), err)
	}
	long := append([]byte{15, 161}, bytes.Repeat([]byte{1, 0, 0, 0, 1, 0, 0, 0, 1}, 4001)...)
	for i, x := range []struct {
		b   []byte
		err api.Errno
		at  int
	}{
		{nil, api.ErrBytes, 0}, {[]byte{0}, api.ErrBytes, 1}, {[]byte{0, 0, 0}, api.ErrBytes, 2}, {[]byte{0, 0, 0, 0, 0}, api.ErrBytes, 2},
		{[]byte{0, 1}, api.ErrBytes, 2}, {[]byte{0, 1, 1, 0, 0, 0, 2, 0, 0, 0}, api.ErrBytes, 10}, {[]byte{0, 1, 1, 0, 0, 0, 1, 0, 0, 0, 1, 9}, api.ErrBytes, 11}, {[]byte{255, 255, 1}, api.ErrBytes, 3},
		{[]byte{0, 1, 1, 0, 0, 0, 2, 0, 0, 0, 1}, api.ErrArg, 0}, {[]byte{0, 1, 0, 0, 0, 0, 1, 0, 0, 0, 1}, api.ErrArg, 0}, {[]byte{0, 1, 1, 0, 0, 0, 1, 128, 0, 0, 0}, api.ErrArg, 0},
		{[]byte{0, 2, 1, 0, 0, 0, 1, 0, 0, 0, 1, 1, 0, 0, 0, 2, 0, 0, 0, 2}, api.ErrArg, 0},
		{long, api.ErrArg, 0}, {append(long, 1), api.ErrBytes, len(long)}, {long[:len(long)-1], api.ErrBytes, len(long) - 1},
	} {
		if l, fault := past.Read(x.b); len(l) > 0 || fault != (api.Fault{Err: x.err, At: x.at}) {
			t.Error(i, l, fault)
		}
	}
}

// What is told is new memory, its spare room too.
func TestNew(t *testing.T) {
	in := append(spans(1, 1, 3, 1, 5, 5), span(9, 9, 9))[:2]
	added, _ := past.Add(in, of(1, 4))
	joined, _ := past.Join(in, nil)
	other, _ := past.Join(nil, in)
	left, _ := past.Minus(in, nil)
	for _, l := range [][]api.Span{added, joined, other, left} {
		l[0].To = 77
		_ = append(l, span(8, 8, 8))
	}
	if !slices.Equal(in[:3], spans(1, 1, 3, 1, 5, 5, 9, 9, 9)) {
		t.Error(in[:3])
	}
}

// set is a past as it is meant.
type set map[api.Dot]bool

func anySet(rnd *rand.Rand) (set, []api.Span) {
	s := set{}
	var l []api.Dot
	for range rnd.Intn(25) {
		d := of(1+rnd.Intn(3), 1+rnd.Intn(9))
		s[d] = true
		l = append(l, d)
	}
	p, _ := past.Of(l)
	return s, p
}

// P7.5: joined, left and within, as sets are; bytes are read as their past.
func TestWhatFollows(t *testing.T) {
	rnd := rand.New(rand.NewSource(1))
	for range 3000 {
		s, a := anySet(rnd)
		u, b := anySet(rnd)
		j, e1 := past.Join(a, b)
		m, e2 := past.Minus(a, b)
		if e1 != api.OK || e2 != api.OK || past.Check(j) != api.OK || past.Check(m) != api.OK || past.Count(a) != len(s) {
			t.Fatal(a, b, j, m)
		}
		within := true
		for node := range 5 {
			last := 0
			for seq := range 12 {
				d := of(node, seq)
				if past.Has(a, d) != s[d] || past.Has(j, d) != (s[d] || u[d]) || past.Has(m, d) != (s[d] && !u[d]) {
					t.Fatal(a, b, j, m, d)
				}
				within = within && (!s[d] || u[d])
				if s[d] {
					last = seq
				}
			}
			if past.Last(a, node) != last {
				t.Fatal(a, node)
			}
		}
		if past.Within(a, b) != within {
			t.Fatal(a, b)
		}
		taken, _ := past.Minus(a, m)
		if all, err := past.Join(taken, m); err != api.OK || !slices.Equal(all, a) {
			t.Fatal(a, m, taken, all)
		}
		raw, _ := past.Bytes(a)
		if back, fault := past.Read(raw); fault != (api.Fault{}) || !slices.Equal(back, a) {
			t.Fatal(a, back, fault)
		}
	}
}

// P7.5: what is read is told as its bytes.
func TestOneForm(t *testing.T) {
	rnd := rand.New(rand.NewSource(2))
	read := 0
	for range 20000 {
		n := rnd.Intn(3)
		b := []byte{0, byte(n)}
		for range n {
			b = append(b, byte(rnd.Intn(3)), 0, 0, 0, byte(rnd.Intn(9)), 0, 0, 0, byte(rnd.Intn(9)))
		}
		if l, fault := past.Read(b); fault.Err == api.OK {
			read++
			if back, err := past.Bytes(l); err != api.OK || !bytes.Equal(back, b) {
				t.Fatal(b, l, back)
			}
		}
	}
	if read < 100 {
		t.Error("too few:", read)
	}
}
