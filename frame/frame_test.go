package frame_test

import (
	"bytes"
	"encoding/binary"
	"math"
	"math/rand"
	"slices"
	"testing"

	"tributary/api"
	"tributary/frame"
	"tributary/print"
)

const top = 1 << 40

func samePacket(a, b api.Packet) bool {
	return a.From == b.From && a.To == b.To && a.Number == b.Number && a.Ack == b.Ack && bytes.Equal(a.Body, b.Body)
}

func sameMessage(a, b api.Message) bool {
	return a.Kind == b.Kind && a.Item == b.Item && a.Size == b.Size && a.At == b.At && bytes.Equal(a.B, b.B)
}

func part(item, size, at int, b ...byte) api.Message {
	return api.Message{Kind: api.MessagePart, Item: item, Size: size, At: at, B: b}
}

// signed tells bytes and their fingerprint behind them.
func signed(b ...byte) []byte { return binary.BigEndian.AppendUint64(slices.Clone(b), print.Sum(b)) }

// P17.1: which packets may be.
func TestCheckPacket(t *testing.T) {
	body := make([]byte, 400)
	for i, p := range []api.Packet{{From: 1}, {From: 5}, {From: top, To: top, Number: top, Ack: top, Body: body}, {From: 1, Number: 1}, {From: 1, Number: 1, Body: []byte{}}} {
		b, err := frame.PutPacket(p)
		if frame.CheckPacket(p) != api.OK || err != api.OK {
			t.Error(i, err)
		}
		if got, fault := frame.GetPacket(b); fault != (api.Fault{}) || !samePacket(got, p) {
			t.Error(i, got, fault)
		}
	}
	for i, p := range []api.Packet{{}, {From: -1}, {From: top + 1}, {From: 1, To: -1}, {From: 1, To: top + 1}, {From: 1, Number: -1}, {From: 1, Number: top + 1}, {From: 1, Ack: -1}, {From: 1, Ack: top + 1}, {From: math.MaxInt}, {From: 1, Ack: math.MinInt},
		{From: 1, Number: 1, Body: append(body, 1)}, {From: 1, Body: []byte{1}}} {
		if b, err := frame.PutPacket(p); frame.CheckPacket(p) != api.ErrArg || err != api.ErrArg || len(b) > 0 {
			t.Error(i, b, err)
		}
	}
}

// P17.1: which messages may be.
func TestCheckMessage(t *testing.T) {
	piece := make([]byte, 200)
	for i, m := range []api.Message{part(5, 3, 1, 7, 8), part(5, 3, 1, 7), part(top, 60000, 0, piece...), part(1, 60000, 59999, 1), part(1, 200, 0, piece...), part(1, 1, 0, 1), {Kind: api.MessageFull, Item: 1}, {Kind: api.MessageGot, Item: top}, {Kind: api.MessageGot, Item: 1, B: []byte{}}} {
		b, err := frame.PutMessage(m)
		if frame.CheckMessage(m) != api.OK || err != api.OK || len(b) > 240 {
			t.Error(i, err)
		}
		if got, fault := frame.GetMessage(b); fault != (api.Fault{}) || !sameMessage(got, m) {
			t.Error(i, got, fault)
		}
	}
	for i, m := range []api.Message{{}, {Kind: 1}, {Kind: 4, Item: 1}, {Kind: -1, Item: 1}, {Kind: math.MaxInt, Item: 1}, part(0, 3, 0, 1), part(top+1, 3, 0, 1), part(-1, 3, 0, 1), part(1, 0, 0, 1), part(1, 60001, 0, 1), part(1, 3, 3, 1), part(1, 3, -1, 1), part(1, 3, 0), part(1, 3, 1, 1, 2, 3), part(1, 60000, 0, append(piece, 1)...), part(1, math.MaxInt, math.MinInt, 1),
		{Kind: api.MessageGot, Item: 5, Size: 1}, {Kind: api.MessageGot, Item: 5, At: 1}, {Kind: api.MessageGot, Item: 5, B: []byte{1}}, {Kind: api.MessageFull, Item: 5, Size: 1}, {Kind: api.MessageFull, Item: 5, At: -1}, {Kind: api.MessageFull}, {Kind: api.MessageGot, Item: top + 1}} {
		if b, err := frame.PutMessage(m); frame.CheckMessage(m) != api.ErrArg || err != api.ErrArg || len(b) > 0 {
			t.Error(i, b, err)
		}
	}
}

// P17.1: the bytes.
func TestBytes(t *testing.T) {
	if b, _ := frame.PutMessage(part(5, 3, 1, 7, 8)); !bytes.Equal(b, []byte{1, 1, 1, 5, 1, 3, 1, 1, 1, 2, 7, 8}) {
		t.Error(b)
	}
	if b, _ := frame.PutMessage(api.Message{Kind: api.MessageGot, Item: 5}); !bytes.Equal(b, []byte{1, 3, 1, 5}) {
		t.Error(b)
	}
	if b, _ := frame.PutPacket(api.Packet{From: 5}); len(b) != 14 || !bytes.Equal(b, signed(1, 5, 0, 0, 0, 0)) {
		t.Error(b)
	}
	if b, _ := frame.PutPacket(api.Packet{From: 5, To: 6, Number: 7, Ack: 8, Body: []byte{9, 10}}); !bytes.Equal(b, signed(1, 5, 1, 6, 1, 7, 1, 8, 1, 2, 9, 10)) {
		t.Error(b)
	}
}

// P17.2: what is no packet.
func TestGetPacket(t *testing.T) {
	long := append([]byte{1, 5, 0, 1, 1, 0, 2, 1, 145}, make([]byte, 401)...)
	turned := signed(1, 5, 0, 0, 0, 0)
	turned[3] ^= 1
	for i, x := range []struct {
		b   []byte
		err api.Errno
		at  int
	}{
		{nil, api.ErrDamaged, 0}, {make([]byte, 7), api.ErrDamaged, 0}, {make([]byte, 8), api.ErrDamaged, 0}, {turned, api.ErrDamaged, 0}, {signed(1, 5, 0, 0, 0, 0)[1:], api.ErrDamaged, 0}, {append(signed(1, 5, 0, 0, 0, 0), 0), api.ErrDamaged, 0},
		{signed(), api.ErrBytes, 0}, {signed(0), api.ErrRange, 0}, {signed(9), api.ErrArg, 0}, {signed(6, 1, 0, 0, 0, 0, 1), api.ErrRange, 0}, {signed(1, 5), api.ErrBytes, 2}, {signed(1, 5, 6, 1, 0, 0, 0, 0, 1), api.ErrRange, 2}, {signed(1, 5, 0, 6, 1, 0, 0, 0, 0, 1), api.ErrRange, 3},
		{signed(1, 5, 0, 0, 6, 1, 0, 0, 0, 0, 1), api.ErrRange, 4}, {signed(1, 5, 0, 0, 0), api.ErrBytes, 5}, {signed(1, 5, 0, 0, 0, 1, 2, 7), api.ErrBytes, 8}, {signed(long...), api.ErrLong, 6}, {signed(1, 5, 0, 0, 0, 0, 0), api.ErrBytes, 6}, {signed(1, 5, 0, 0, 0, 1, 1, 7), api.ErrArg, 0},
	} {
		if p, fault := frame.GetPacket(x.b); fault != (api.Fault{Err: x.err, At: x.at}) || !samePacket(p, api.Packet{}) {
			t.Error(i, p, fault)
		}
	}
}

// P17.3: what is no message.
func TestGetMessage(t *testing.T) {
	for i, x := range []struct {
		b   []byte
		err api.Errno
		at  int
	}{
		{nil, api.ErrBytes, 0}, {[]byte{0}, api.ErrRange, 0}, {[]byte{1, 4, 1, 1}, api.ErrRange, 0}, {[]byte{1, 3}, api.ErrBytes, 2}, {[]byte{1, 3, 0}, api.ErrRange, 2}, {[]byte{1, 3, 6, 1, 0, 0, 0, 0, 1}, api.ErrRange, 2}, {[]byte{1, 3, 1, 5, 0}, api.ErrBytes, 4}, {[]byte{1, 2, 1, 5, 1, 1}, api.ErrBytes, 4},
		{[]byte{1, 1, 1, 5}, api.ErrBytes, 4}, {[]byte{1, 1, 1, 5, 0, 0, 0}, api.ErrRange, 4}, {[]byte{1, 1, 1, 5, 2, 234, 97}, api.ErrRange, 4}, {[]byte{1, 1, 1, 5, 1, 3, 2, 234, 97}, api.ErrRange, 6}, {[]byte{1, 1, 1, 5, 1, 3, 0, 1, 201}, api.ErrLong, 7}, {[]byte{1, 1, 1, 5, 1, 3, 0, 1, 2, 7}, api.ErrBytes, 10},
		{[]byte{1, 1, 1, 5, 1, 3, 0, 1, 1, 7, 9}, api.ErrBytes, 10}, {[]byte{1, 1, 1, 5, 1, 3, 0, 0}, api.ErrArg, 0}, {[]byte{1, 1, 1, 5, 1, 3, 1, 3, 1, 1, 7}, api.ErrArg, 0}, {[]byte{1, 1, 1, 5, 1, 1, 0, 1, 2, 7, 7}, api.ErrArg, 0}, {[]byte{1, 1, 1, 5, 1, 3, 2, 234, 96, 1, 1, 7}, api.ErrArg, 0},
	} {
		if m, fault := frame.GetMessage(x.b); fault != (api.Fault{Err: x.err, At: x.at}) || !sameMessage(m, api.Message{}) {
			t.Error(i, m, fault)
		}
	}
}

// P17.4: bytes are read as their packet, or message, and told as these; one byte changed is damage.
func TestWhatFollows(t *testing.T) {
	rnd := rand.New(rand.NewSource(1))
	num := func(low int) int { return low + rnd.Intn(top)>>rnd.Intn(41) }
	for range 500 {
		p := api.Packet{From: num(1), To: num(0), Number: num(1), Ack: num(0), Body: make([]byte, rnd.Intn(30))}
		rnd.Read(p.Body)
		b, err := frame.PutPacket(p)
		got, fault := frame.GetPacket(b)
		if err != api.OK || fault != (api.Fault{}) || !samePacket(p, got) {
			t.Fatal(p, got, err, fault)
		}
		i := rnd.Intn(len(b))
		b[i] ^= byte(1 + rnd.Intn(255))
		if got, fault := frame.GetPacket(b); fault != (api.Fault{Err: api.ErrDamaged}) || !samePacket(got, api.Packet{}) {
			t.Fatal(i, got, fault)
		}
	}
	read := 0
	for range 20000 {
		b := []byte{1, byte(rnd.Intn(5)), 1, byte(rnd.Intn(3)), 1, byte(rnd.Intn(4)), byte(rnd.Intn(2)), 1, 1, 9}[:4+rnd.Intn(7)]
		if m, fault := frame.GetMessage(b); fault.Err == api.OK {
			read++
			if back, err := frame.PutMessage(m); err != api.OK || !bytes.Equal(back, b) {
				t.Fatal(b, m, back)
			}
		}
		raw := signed(1, byte(rnd.Intn(2)), 0, byte(rnd.Intn(2)), 1, 0, 0)
		if p, fault := frame.GetPacket(raw); fault.Err == api.OK {
			if back, err := frame.PutPacket(p); err != api.OK || !bytes.Equal(back, raw) {
				t.Fatal(raw, p, back)
			}
		}
	}
	if read < 100 {
		t.Error("too few:", read)
	}
}

// What is told is new memory.
func TestMemory(t *testing.T) {
	in := signed(1, 5, 0, 1, 1, 0, 1, 2, 7, 8)
	p, _ := frame.GetPacket(in)
	p.Body[0] = 9
	_ = append(p.Body, 9, 9)
	message := []byte{1, 1, 1, 5, 1, 3, 0, 1, 2, 7, 8, 99}[:11]
	m, _ := frame.GetMessage(message)
	m.B[0] = 9
	_ = append(m.B, 9)
	b, _ := frame.PutPacket(p)
	b[8] = 1
	c, _ := frame.PutMessage(m)
	c[9] = 1
	if in[8] != 7 || message[9] != 7 || message[:12][11] != 99 || p.Body[0] != 9 || m.B[0] != 9 {
		t.Error(in, message, p, m)
	}
}
