package crc_test

import (
	"hash/crc32"
	"strings"
	"testing"

	"bellwether/api"
	"bellwether/crc"
)

// samples are texts of many lengths: empty, of one byte each, of equal bytes, no UTF-8, and long ones.
func samples() []string {
	out := []string{"", "123456789", "abc", "abcd", "abcde", "é→𝄞", "\xff\xfe\x80", "\x00", strings.Repeat("\x00", 40), strings.Repeat("\xff", 40), strings.Repeat("bellwether ", 1000)}
	for b := range 256 {
		out = append(out, string([]byte{byte(b)}))
	}
	for size := range 70 {
		out = append(out, noise(size, uint32(size)))
	}
	return out
}

// noise is bytes that look like none in particular, the same ones each time.
func noise(size int, seed uint32) string {
	out := make([]byte, size)
	for i := range out {
		seed = seed*1664525 + 1013904223
		out[i] = byte(seed >> 24)
	}
	return string(out)
}

// together is three texts of one length, bit by bit.
func together(a, b, c string) string {
	out := make([]byte, len(a))
	for i := range out {
		out[i] = a[i] ^ b[i] ^ c[i]
	}
	return string(out)
}

func wantOpen(t *testing.T, in, out string, e api.Errno) {
	t.Helper()
	if got, err := crc.Open(in); got != out || err != e {
		t.Errorf("Open(%q): %q %d, not %q %d", in, got, err, out, e)
	}
}

// P2.1
func TestSum(t *testing.T) {
	for s, want := range map[string]uint32{"": 0, "123456789": 0xCBF43926, "\x00": 0xD202EF8D, "a": 0xE8B7BE43} {
		if got := crc.Sum(s); got != want {
			t.Errorf("Sum(%q): %08X, not %08X", s, got, want)
		}
	}
	for _, s := range samples() {
		if got, want := crc.Sum(s), crc32.ChecksumIEEE([]byte(s)); got != want {
			t.Errorf("Sum(%q): %08X, not %08X", s, got, want)
		}
	}
}

// P2.1: the text, and its sum's lowest byte first.
func TestSeal(t *testing.T) {
	if got := crc.Seal(""); got != "\x00\x00\x00\x00" {
		t.Errorf("Seal of the empty text: %q", got)
	}
	if got := crc.Seal("123456789"); got != "123456789\x26\x39\xf4\xcb" {
		t.Errorf("Seal: %q", got)
	}
	for _, s := range samples() {
		sum := crc32.ChecksumIEEE([]byte(s))
		want := s + string([]byte{byte(sum), byte(sum >> 8), byte(sum >> 16), byte(sum >> 24)})
		if got := crc.Seal(s); got != want {
			t.Errorf("Seal(%q): %q, not %q", s, got, want)
		}
	}
}

// P2.1
func TestOpen(t *testing.T) {
	wantOpen(t, "123456789\x26\x39\xf4\xcb", "123456789", api.OK)
	wantOpen(t, "\x00\x00\x00\x00", "", api.OK)
	wantOpen(t, "123456788\x26\x39\xf4\xcb", "", api.ErrSum)
	wantOpen(t, "123456789\xcb\xf4\x39\x26", "", api.ErrSum) // the highest byte first
	wantOpen(t, "123456789", "", api.ErrSum)
	wantOpen(t, "\x00\x00\x00\x00\x00", "", api.ErrSum)
	wantOpen(t, "\xff\xff\xff\xff", "", api.ErrSum)
	wantOpen(t, crc.Seal("abc")+"\x00", "", api.ErrSum)
	wantOpen(t, "\x00"+crc.Seal("abc"), "", api.ErrSum)
}

// P2.1: fewer than four bytes, of any kind.
func TestOpenShort(t *testing.T) {
	for _, s := range []string{"", "a", "ab", "abc", "\x00", "\x00\x00", "\x00\x00\x00", "\xff\xff\xff", "→"} {
		wantOpen(t, s, "", api.ErrShort)
	}
}

// P2.2
func TestOpenOfSeal(t *testing.T) {
	for _, s := range samples() {
		wantOpen(t, crc.Seal(s), s, api.OK)
		wantOpen(t, crc.Seal(crc.Seal(s)), crc.Seal(s), api.OK)
	}
}

// P2.2: each byte of a sealed text, those of the sum too, turned into each other one.
func TestTurnedByte(t *testing.T) {
	for _, s := range []string{"", "a", "123456789", "\x00\x00\x00\x00", noise(36, 7)} {
		sealed := crc.Seal(s)
		for at := range len(sealed) {
			for b := range 256 {
				turned := []byte(sealed)
				turned[at] = byte(b)
				if turned[at] != sealed[at] {
					wantOpen(t, string(turned), "", api.ErrSum)
				}
			}
		}
	}
}

// P2.2
func TestThreeTogether(t *testing.T) {
	for size := range 70 {
		a, b, c := noise(size, 1), noise(size, 2), noise(size, 3)
		zeros, ones := strings.Repeat("\x00", size), strings.Repeat("\xff", size)
		for _, three := range [][3]string{{a, b, c}, {a, a, b}, {a, a, a}, {a, zeros, ones}, {zeros, ones, ones}} {
			got := crc.Sum(together(three[0], three[1], three[2]))
			want := crc.Sum(three[0]) ^ crc.Sum(three[1]) ^ crc.Sum(three[2])
			if got != want {
				t.Errorf("the sum of %q together: %08X, not %08X", three, got, want)
			}
		}
	}
}
