package journal

import (
	"iter"

	"tributary/print"
)

const (
	longest  = 60000 // how many bytes a frame has at most
	sizeLen  = 4     // how many bytes tell how many those are
	sumLen   = 8     // how many bytes tell their fingerprint
	headLen  = sizeLen + sumLen
	genLen   = 8 // how many bytes tell a generation
	mostSnap = longest - genLen
)

// laid tells a number's bytes, the highest first.
func laid(n uint64, size int) []byte {
	b := make([]byte, size)
	for i := range b {
		b[i] = byte(n >> (8 * (size - 1 - i)))
	}
	return b
}

// number tells the number of bytes.
func number(b []byte) uint64 {
	n := uint64(0)
	for _, x := range b {
		n = n<<8 | uint64(x)
	}
	return n
}

// framed tells the frame of bytes.
func framed(b []byte) []byte {
	out := append(laid(uint64(len(b)), sizeLen), laid(print.Sum(b), sumLen)...)
	return append(out, b...)
}

// whole tells the bytes of the whole frames that a text begins with, and where each one ends.
func whole(text []byte) iter.Seq2[[]byte, int] {
	return func(yield func([]byte, int) bool) {
		for at := 0; len(text)-at >= headLen; {
			size, sum := number(text[at:at+sizeLen]), number(text[at+sizeLen:at+headLen])
			begin := at + headLen
			if size > longest || int(size) > len(text)-begin {
				return
			}
			at = begin + int(size)
			if b := text[begin:at:at]; print.Sum(b) != sum || !yield(b, at) {
				return
			}
		}
	}
}

// first tells the bytes of the first whole frame, and where it ends; 0, if there is none.
func first(text []byte) ([]byte, int) {
	var b []byte
	end := 0
	for x, at := range whole(text) {
		b, end = x, at
		break
	}
	return b, end
}
