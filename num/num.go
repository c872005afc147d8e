// Package num is layer 1: numbers as bytes. See shared/doc/01-num.md.
package num

import "bellwether/api"

const (
	maxWidth = 4
	byteBits = 8
)

// Put is n in width bytes, the lowest first.
func Put(n, width int) (string, api.Errno) {
	if !isWidth(width) {
		return "", api.ErrArg
	}
	if n < 0 || n>>(byteBits*width) != 0 {
		return "", api.ErrLong
	}
	out := make([]byte, width)
	for i := range width {
		out[i] = byte(n >> (byteBits * i))
	}
	return string(out), api.OK
}

// Get is the number that the width bytes of s from at on are.
func Get(s string, at, width int) (int, api.Errno) {
	if !isWidth(width) || at < 0 {
		return 0, api.ErrArg
	}
	// at may be the greatest number there is, so that nothing is added to it here.
	if at > len(s)-width {
		return 0, api.ErrShort
	}
	n := 0
	for i := range width {
		n |= int(s[at+i]) << (byteBits * i)
	}
	return n, api.OK
}

func isWidth(width int) bool {
	return width >= 1 && width <= maxWidth
}

// Clamp is n, but not below low and not above high; of bounds that are turned round low holds.
func Clamp(n, low, high int) int {
	if n < low || high < low {
		return low
	}
	return min(n, high)
}

// Mod is what is left of n by by, never below 0.
func Mod(n, by int) int {
	if by < 1 {
		return 0
	}
	left := n % by
	if left < 0 {
		// Go's % has the sign of n.
		left += by
	}
	return left
}

// Sat is n and one more, up to most.
func Sat(n, most int) int {
	if n < 0 || most < 0 {
		return 0
	}
	// Held against most ahead of the step: the greatest number has no next one.
	if n >= most {
		return most
	}
	return n + 1
}
