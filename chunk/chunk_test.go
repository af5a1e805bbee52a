package chunk_test

import (
	"bytes"
	"math"
	"math/rand"
	"testing"

	"tributary/api"
	"tributary/chunk"
	"tributary/frame"
)

func box(t *testing.T, quota int) *chunk.Box {
	t.Helper()
	x, err := chunk.New(quota)
	if err != api.OK {
		t.Fatal(err)
	}
	return x
}

func item(n int) []byte {
	b := make([]byte, n)
	for i := range b {
		b[i] = byte(i*i + i/7)
	}
	return b
}

func cut(t *testing.T, number int, b []byte) []api.Message {
	t.Helper()
	l, err := chunk.Cut(number, b)
	if err != api.OK {
		t.Fatal(err)
	}
	return l
}

// put fails, if Put does not answer this, or the box does not stand so then.
func put(t *testing.T, x *chunk.Box, m api.Message, want []byte, err api.Errno, number, used int) {
	t.Helper()
	if got, e := x.Put(m); e != err || !bytes.Equal(got, want) || x.Item() != number || x.Used() != used {
		t.Error(len(got), e, x.Item(), x.Used())
	}
}

// P19.1: the pieces.
func TestCut(t *testing.T) {
	for n, pieces := range map[int]int{1: 1, 199: 1, 200: 1, 201: 2, 400: 2, 401: 3, 59999: 300, 60000: 300} {
		b := item(n)
		l := cut(t, 7, b)
		if len(l) != pieces {
			t.Error(n, len(l))
		}
		at := 0
		for i, m := range l {
			last := i == len(l)-1
			if frame.CheckMessage(m) != api.OK || m.Kind != api.MessagePart || m.Item != 7 || m.Size != n || m.At != at || !last && len(m.B) != 200 || !bytes.Equal(m.B, b[at:at+len(m.B)]) {
				t.Fatal(n, i, m)
			}
			at += len(m.B)
		}
		if at != n {
			t.Error(n, at)
		}
	}
	for _, x := range []struct {
		number, n int
		err       api.Errno
	}{{0, 1, api.ErrArg}, {-1, 1, api.ErrArg}, {1<<40 + 1, 1, api.ErrArg}, {math.MaxInt, 1, api.ErrArg}, {1, 0, api.ErrArg}, {1, 60001, api.ErrLong}, {0, 60001, api.ErrArg}} {
		if l, err := chunk.Cut(x.number, item(x.n)); err != x.err || len(l) > 0 {
			t.Error(x, len(l), err)
		}
	}
	if l, err := chunk.Cut(1<<40, item(1)); err != api.OK || len(l) != 1 {
		t.Error(l, err)
	}
}

// P19.2: quotas, and boxes that nobody made.
func TestNew(t *testing.T) {
	for quota, err := range map[int]api.Errno{0: api.OK, 1: api.OK, 60000: api.OK, 60001: api.ErrArg, -1: api.ErrArg, math.MaxInt: api.ErrArg} {
		if x, e := chunk.New(quota); e != err || (x == nil) != (err != api.OK) || x.Item() != 0 || x.Used() != 0 {
			t.Error(quota, x, e)
		}
	}
	copied := *box(t, 500)
	for _, x := range []*chunk.Box{nil, {}, &copied} {
		x.Drop()
		put(t, x, cut(t, 7, item(300))[0], nil, api.ErrNil, 0, 0)
		put(t, x, api.Message{}, nil, api.ErrNil, 0, 0)
	}
}

// P19.2, P19.3: the chapter's examples, and what is refused.
func TestPut(t *testing.T) {
	b := item(401)
	l := cut(t, 7, b)
	x := box(t, 500)
	put(t, x, l[0], nil, api.OK, 7, 200)
	put(t, x, l[1], nil, api.OK, 7, 400)
	put(t, x, l[2], b, api.OK, 0, 0)
	put(t, x, l[1], nil, api.ErrState, 0, 0)
	put(t, x, l[0], nil, api.OK, 7, 200)
	put(t, x, l[0], nil, api.OK, 7, 200)
	put(t, x, l[2], nil, api.ErrState, 7, 200)
	put(t, x, api.Message{Kind: api.MessageGot, Item: 7}, nil, api.ErrArg, 7, 200)
	put(t, x, api.Message{Kind: api.MessagePart, Item: 7, Size: 401, At: 200}, nil, api.ErrArg, 7, 200)
	put(t, x, api.Message{}, nil, api.ErrArg, 7, 200)
	put(t, x, cut(t, 8, b)[1], nil, api.ErrState, 7, 200)
	put(t, x, cut(t, 7, item(402))[1], nil, api.ErrState, 7, 200)
	put(t, x, l[1], nil, api.OK, 7, 400)
	put(t, x, l[1], nil, api.ErrState, 7, 400)
	put(t, x, cut(t, 9, item(501))[0], nil, api.ErrFull, 0, 0)
	put(t, x, l[2], nil, api.ErrState, 0, 0)
	put(t, x, cut(t, 9, item(500))[0], nil, api.OK, 9, 200)
	put(t, x, cut(t, 10, item(3))[0], item(3), api.OK, 0, 0)
	put(t, x, l[0], nil, api.OK, 7, 200)
	x.Drop()
	put(t, x, l[1], nil, api.ErrState, 0, 0)
	put(t, box(t, 100), l[0], nil, api.ErrFull, 0, 0)
	put(t, box(t, 0), cut(t, 1, item(1))[0], nil, api.ErrFull, 0, 0)
	put(t, box(t, 1), cut(t, 1, item(1))[0], item(1), api.OK, 0, 0)
	// pieces of any length, as long as they follow one another
	x = box(t, 5)
	put(t, x, api.Message{Kind: 1, Item: 3, Size: 5, At: 0, B: []byte{1}}, nil, api.OK, 3, 1)
	put(t, x, api.Message{Kind: 1, Item: 3, Size: 5, At: 2, B: []byte{3}}, nil, api.ErrState, 3, 1)
	put(t, x, api.Message{Kind: 1, Item: 3, Size: 5, At: 1, B: []byte{2, 3}}, nil, api.OK, 3, 3)
	put(t, x, api.Message{Kind: 1, Item: 3, Size: 5, At: 3, B: []byte{4, 5}}, []byte{1, 2, 3, 4, 5}, api.OK, 0, 0)
}

// P19.4: whatever came ahead, pieces in order are put together; a box never has more than its quota.
func TestWhatFollows(t *testing.T) {
	rnd := rand.New(rand.NewSource(1))
	whole := 0
	for range 300 {
		quota := rnd.Intn(1500)
		x := box(t, quota)
		items := [][]byte{item(1 + rnd.Intn(1500)), item(1 + rnd.Intn(1500)), item(1 + rnd.Intn(300))}
		for range rnd.Intn(30) {
			n := rnd.Intn(3)
			l := cut(t, n+1, items[n])
			number, used := x.Item(), x.Used()
			m := l[rnd.Intn(len(l))]
			_, err := x.Put(m)
			if x.Used() > quota || err != api.OK && m.At > 0 && (x.Item() != number || x.Used() != used) {
				t.Fatal(x.Used(), quota, err)
			}
		}
		for n, b := range items {
			l := cut(t, n+1, b)
			for i, m := range l {
				got, err := x.Put(m)
				if len(b) > quota {
					if want := map[bool]api.Errno{true: api.ErrFull, false: api.ErrState}[i == 0]; err != want {
						t.Fatal(i, err)
					}
					continue
				}
				if err != api.OK || (i == len(l)-1) != (len(got) > 0) || len(got) > 0 && !bytes.Equal(got, b) {
					t.Fatal(i, err, len(got))
				}
				whole++
			}
		}
	}
	if whole < 500 {
		t.Error("too few:", whole)
	}
}

// What is handed in is not kept, what is told is new memory.
func TestMemory(t *testing.T) {
	b := append(item(300), 9)[:300]
	l := cut(t, 7, b)
	l[0].B[0] ^= 1
	_ = append(l[1].B, 1)
	if b[0] == l[0].B[0] || b[:301][300] != 9 {
		t.Error("Cut")
	}
	x := box(t, 500)
	x.Put(l[0])
	l[0].B[1] ^= 1
	got, _ := x.Put(l[1])
	if got[1] == l[0].B[1] {
		t.Error("Put")
	}
	l[1].B[0] ^= 1
	if got[200] == l[1].B[0] {
		t.Error("Put")
	}
}
