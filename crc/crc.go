// Package crc is layer 2: sums of bytes. See shared/doc/02-crc.md.
package crc

import (
	"bellwether/api"
	"bellwether/num"
)

const (
	polynomial uint32 = 0xEDB88320
	allBits    uint32 = 0xFFFFFFFF
	byteBits          = 8
	sumWidth          = 4
)

// Sum is the CRC-32 of IEEE 802.3 of s.
func Sum(s string) uint32 {
	sum := allBits
	// A list, since a range over the text itself would go by runes.
	list := []byte(s)
	for i := range len(list) {
		sum = withByte(sum, list[i])
	}
	return sum ^ allBits
}

func withByte(sum uint32, b byte) uint32 {
	sum ^= uint32(b)
	for range byteBits {
		odd := sum&1 == 1
		sum >>= 1
		if odd {
			sum ^= polynomial
		}
	}
	return sum
}

// Seal is s with its sum behind it.
func Seal(s string) string {
	return s + tail(s)
}

// Open is what was sealed.
func Open(s string) (string, api.Errno) {
	end := len(s) - sumWidth
	if end < 0 {
		return "", api.ErrShort
	}
	body := s[:end]
	if s[end:] != tail(body) {
		return "", api.ErrSum
	}
	return body, api.OK
}

// tail asks for no error: a sum always fits in its four bytes.
func tail(s string) string {
	bytes, _ := num.Put(int(Sum(s)), sumWidth)
	return bytes
}
