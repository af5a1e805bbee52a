// Package frame is layer 17: packets and messages, as bytes.
package frame

import (
	"bytes"

	"tributary/api"
	"tributary/print"
	"tributary/wire"
)

const checkLen = 8 // how many bytes tell the fingerprint of what stands ahead

// CheckPacket tells why a packet may not be.
func CheckPacket(p api.Packet) api.Errno {
	for _, n := range []int{p.To, p.Number, p.Ack} {
		if n < 0 || n > api.MaxEpoch {
			return api.ErrArg
		}
	}
	if p.From < 1 || p.From > api.MaxEpoch || len(p.Body) > api.MaxBody || p.Number == 0 && len(p.Body) > 0 {
		return api.ErrArg
	}
	return api.OK
}

// PutPacket tells a packet's bytes.
func PutPacket(p api.Packet) ([]byte, api.Errno) {
	if err := CheckPacket(p); err != api.OK {
		return nil, err
	}
	w := wire.New()
	for _, n := range []int{p.From, p.To, p.Number, p.Ack} {
		w.Num(n)
	}
	w.Raw(p.Body)
	b, _ := w.Out()
	return append(b, check(b)...), api.OK
}

// check tells the fingerprint of bytes, as bytes, the highest first.
func check(b []byte) []byte {
	sum := print.Sum(b)
	out := make([]byte, 0, checkLen)
	for i := range checkLen {
		out = append(out, byte(sum>>(8*(checkLen-1-i))))
	}
	return out
}

// GetPacket tells the packet of bytes.
func GetPacket(b []byte) (api.Packet, api.Fault) {
	end := len(b) - checkLen
	if end < 0 || !bytes.Equal(check(b[:end]), b[end:]) {
		return api.Packet{}, api.Fault{Err: api.ErrDamaged}
	}
	r := wire.Open(b[:end])
	p := api.Packet{From: r.Num(1, api.MaxEpoch), To: r.Num(0, api.MaxEpoch), Number: r.Num(0, api.MaxEpoch), Ack: r.Num(0, api.MaxEpoch), Body: r.Raw(api.MaxBody)}
	if fault := r.End(); fault.Err != api.OK {
		return api.Packet{}, fault
	}
	if err := CheckPacket(p); err != api.OK {
		return api.Packet{}, api.Fault{Err: err}
	}
	return p, api.Fault{}
}
