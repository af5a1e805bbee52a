// Package wire is layer 1: numbers, texts and bytes, one behind the other.
package wire

const (
	greatest = 1<<62 - 1 // the greatest number that has a form
	room     = 1 << 20   // how many bytes a writer takes
	widest   = 8         // how many bytes of a number may follow the first one
)
