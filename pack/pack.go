// Package pack is layer 1: numbers and records as bytes of fixed widths (see shared/doc/01-pack.md).
package pack

import (
	"grapnel/api"
)

const (
	maxWidth = 6    // bytes of a number
	maxPad   = 4096 // bytes of a text that was filled up
)

// Put is a number as so many bytes.
func Put(n, width int) (string, api.Errno) {
	if !isWidth(width) {
		return "", api.ErrArg
	}
	if !hasRoom(n, width) {
		return "", api.ErrRange
	}
	b := make([]byte, width)
	for i := range b {
		b[i] = byte(n >> (8 * i))
	}
	return string(b), api.OK
}

// Get is the number that stands at a place.
func Get(s string, at, width int) (int, api.Errno) {
	if !isWidth(width) {
		return 0, api.ErrArg
	}
	// Nothing is added to at ahead of this: it may be the greatest number there is.
	if at < 0 || at > len(s)-width {
		return 0, api.ErrShort
	}
	n := 0
	for i := range width {
		n |= int(s[at+i]) << (8 * i)
	}
	return n, api.OK
}

// Pad is a text, filled up with bytes 0.
func Pad(s string, n int) (string, api.Errno) {
	if n < 0 || n > maxPad {
		return "", api.ErrArg
	}
	if len(s) > n {
		return "", api.ErrLong
	}
	b := make([]byte, n)
	copy(b, s)
	return string(b), api.OK
}

func isWidth(width int) bool { return width >= 1 && width <= maxWidth }

// hasRoom asks whether n fits into width bytes, a width that isWidth.
func hasRoom(n, width int) bool { return n >= 0 && n>>(8*width) == 0 }
