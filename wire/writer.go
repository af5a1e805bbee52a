package wire

import (
	"bytes"
	"math/bits"

	"tributary/api"
)

// Writer writes bytes. New makes it.
type Writer struct {
	self *Writer // tells a writer that New made from a copy, or one made by hand
	out  []byte
	err  api.Errno
}

// New begins to write.
func New() *Writer {
	w := &Writer{}
	w.self = w
	return w
}

func (w *Writer) made() bool { return w != nil && w.self == w }

// Num writes a number from 0 to 2^62 - 1.
func (w *Writer) Num(n int) {
	if !w.made() || w.err != api.OK {
		return
	}
	if n < 0 || n > greatest {
		w.err = api.ErrRange
		return
	}
	if w.fits(width(n)) {
		put := w.put
		number(put, n)
	}
}

// Text writes a text.
func (w *Writer) Text(s string) {
	if w.made() && w.err == api.OK && w.fits(width(len(s))+len(s)) {
		put := w.put
		number(put, len(s))
		put([]byte(s)...)
	}
}

// Raw writes bytes.
func (w *Writer) Raw(b []byte) {
	if w.made() && w.err == api.OK && w.fits(width(len(b))+len(b)) {
		put := w.put
		number(put, len(b))
		put(b...)
	}
}

// Out tells all that was written, or why not all could be.
func (w *Writer) Out() ([]byte, api.Errno) {
	switch {
	case !w.made():
		return nil, api.ErrNil
	case w.err != api.OK:
		return nil, w.err
	}
	return bytes.Clone(w.out), api.OK
}

func (w *Writer) put(b ...byte) { w.out = append(w.out, b...) }

// fits tells whether so many bytes more have room, and notes it if they have none.
func (w *Writer) fits(n int) bool {
	if n > room-len(w.out) {
		w.err = api.ErrLong
	}
	return w.err == api.OK
}

// width tells how many bytes a number takes, the one that counts them among them.
func width(n int) int { return 1 + (bits.Len64(uint64(n))+7)/8 }

// number puts a number's form: how many bytes follow, and these, the highest first.
func number(put func(...byte), n int) {
	follow := width(n) - 1
	put(byte(follow))
	for i := follow - 1; i >= 0; i-- {
		put(byte(n >> (8 * i)))
	}
}
