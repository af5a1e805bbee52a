package wire

import (
	"bytes"

	"tributary/api"
)

// Reader reads bytes. Open makes it.
type Reader struct {
	self  *Reader // tells a reader that Open made from a copy, or one made by hand
	b     []byte
	at    int
	fault api.Fault
}

// Open begins to read.
func Open(b []byte) *Reader {
	r := &Reader{b: bytes.Clone(b)}
	r.self = r
	return r
}

func (r *Reader) made() bool { return r != nil && r.self == r }

func (r *Reader) reads() bool { return r.made() && r.fault.Err == api.OK }

// Num reads a number from low to high.
func (r *Reader) Num(low, high int) int {
	if !r.reads() {
		return 0
	}
	n, end := r.number(low, high)
	r.at = end
	return n
}

// Text reads a text of at most so many bytes.
func (r *Reader) Text(most int) string { return string(r.piece(most)) }

// Raw reads bytes, at most so many.
func (r *Reader) Raw(most int) []byte { return bytes.Clone(r.piece(most)) }

// At tells the place; behind a fault: where what was not read begins.
func (r *Reader) At() int {
	if !r.made() {
		return 0
	}
	return r.at
}

// Left tells how many bytes are behind the place.
func (r *Reader) Left() int {
	if !r.made() {
		return 0
	}
	return len(r.b) - r.at
}

// Fault tells what was wrong, if anything was.
func (r *Reader) Fault() api.Fault {
	if !r.made() {
		return api.Fault{Err: api.ErrNil}
	}
	return r.fault
}

// End tells what was wrong, or that bytes are left.
func (r *Reader) End() api.Fault {
	if r.reads() && r.at < len(r.b) {
		return api.Fault{Err: api.ErrBytes, At: r.at}
	}
	return r.Fault()
}

// number tells the number at the place and where it ends; or notes the fault, and tells 0 and the place.
func (r *Reader) number(low, high int) (int, int) {
	var n uint64
	var follow []byte
	err, at := api.ErrBytes, len(r.b)
	if r.at == len(r.b) {
		goto wrong
	}
	if r.b[r.at] > widest {
		err, at = api.ErrArg, r.at
		goto wrong
	}
	follow = r.b[r.at+1:]
	if len(follow) < int(r.b[r.at]) {
		goto wrong
	}
	follow = follow[:r.b[r.at]]
	if len(follow) > 0 && follow[0] == 0 {
		err, at = api.ErrArg, r.at
		goto wrong
	}
	for _, x := range follow {
		n = n<<8 | uint64(x)
	}
	if n > greatest || int(n) < low || int(n) > high {
		err, at = api.ErrRange, r.at
		goto wrong
	}
	return int(n), r.at + 1 + len(follow)
wrong:
	r.fault = api.Fault{Err: err, At: at}
	return 0, r.at
}

// piece tells the bytes at the place, of which there may be at most so many; they are the reader's own.
func (r *Reader) piece(most int) []byte {
	var n, begin int
	err, at := api.ErrLong, 0
	if !r.reads() {
		return nil
	}
	n, begin = r.number(0, greatest)
	if r.fault.Err != api.OK {
		return nil
	}
	if n > most {
		at = r.at
		goto wrong
	}
	if n > len(r.b)-begin {
		err, at = api.ErrBytes, len(r.b)
		goto wrong
	}
	r.at = begin + n
	return r.b[begin:r.at]
wrong:
	r.fault = api.Fault{Err: err, At: at}
	return nil
}
