package num_test

import (
	"math"
	"math/big"
	"testing"

	"bellwether/api"
	"bellwether/num"
)

// edges are numbers at which a call might go wrong: the least and the greatest ones, and those around each width's limit.
func edges() []int {
	out := []int{math.MinInt, math.MinInt + 1, -1 << 32, -256, -5, -1, 0, 1, 4, 5, 6, 77, math.MaxInt - 1, math.MaxInt}
	for width := 1; width <= 5; width++ {
		out = append(out, 1<<(8*width)-1, 1<<(8*width), 1<<(8*width)+1)
	}
	return out
}

func wantPut(t *testing.T, n, width int, s string, e api.Errno) {
	t.Helper()
	if got, err := num.Put(n, width); got != s || err != e {
		t.Errorf("Put(%d, %d): %q %d, not %q %d", n, width, got, err, s, e)
	}
}

func wantGet(t *testing.T, s string, at, width, n int, e api.Errno) {
	t.Helper()
	if got, err := num.Get(s, at, width); got != n || err != e {
		t.Errorf("Get(%q, %d, %d): %d %d, not %d %d", s, at, width, got, err, n, e)
	}
}

// P1.1: the lowest byte is first, and all width bytes are there.
func TestPutBytes(t *testing.T) {
	wantPut(t, 258, 2, "\x02\x01", api.OK)
	wantPut(t, 258, 3, "\x02\x01\x00", api.OK)
	wantPut(t, 0x04030201, 4, "\x01\x02\x03\x04", api.OK)
	wantPut(t, 0, 1, "\x00", api.OK)
	wantPut(t, 0, 4, "\x00\x00\x00\x00", api.OK)
	wantPut(t, 200, 1, "\xc8", api.OK)
}

// P1.1: what just fits, and what just does not, at each width.
func TestPutLimits(t *testing.T) {
	full := "\xff\xff\xff\xff"
	for width := 1; width <= 4; width++ {
		limit := 1 << (8 * width)
		wantPut(t, limit-1, width, full[:width], api.OK)
		wantPut(t, limit, width, "", api.ErrLong)
		wantPut(t, limit+1, width, "", api.ErrLong)
		for _, n := range []int{-1, -limit, math.MinInt, math.MaxInt} {
			wantPut(t, n, width, "", api.ErrLong)
		}
	}
}

// P1.1, P8: a wrong width is told first, whatever the number is.
func TestPutWidth(t *testing.T) {
	for _, width := range []int{math.MinInt, -8, -1, 0, 5, 8, 64, math.MaxInt} {
		for _, n := range edges() {
			wantPut(t, n, width, "", api.ErrArg)
		}
	}
}

// P1.1: the number, from any place on, with bytes ahead and behind.
func TestGetNumber(t *testing.T) {
	s := "\x01\x02\x03\xff\x80"
	wantGet(t, s, 0, 1, 1, api.OK)
	wantGet(t, s, 0, 2, 0x0201, api.OK)
	wantGet(t, s, 1, 3, 0xff0302, api.OK)
	wantGet(t, s, 1, 4, 0x80ff0302, api.OK)
	wantGet(t, s, 4, 1, 0x80, api.OK)
	wantGet(t, "\xff\xff\xff\xff", 0, 4, 1<<32-1, api.OK)
	wantGet(t, "é", 0, 2, 0xa9c3, api.OK)
}

// P1.1: at each place, either the bytes are there or they are not.
func TestGetShort(t *testing.T) {
	zeros := "\x00\x00\x00\x00\x00\x00"
	for size := 0; size <= len(zeros); size++ {
		for width := 1; width <= 4; width++ {
			for at := 0; at <= size+5; at++ {
				want := api.OK
				if at+width > size {
					want = api.ErrShort
				}
				wantGet(t, zeros[:size], at, width, 0, want)
			}
			wantGet(t, zeros[:size], math.MaxInt, width, 0, api.ErrShort)
			wantGet(t, zeros[:size], math.MaxInt-width, width, 0, api.ErrShort)
		}
	}
	wantGet(t, "ab", 1, 2, 0, api.ErrShort)
}

// P1.1, P8: a wrong width and a place below 0 are told ahead of a text that is too short.
func TestGetArg(t *testing.T) {
	for _, s := range []string{"", "a", "abcdef"} {
		for _, at := range []int{math.MinInt, -4, -1} {
			for _, width := range []int{1, 4} {
				wantGet(t, s, at, width, 0, api.ErrArg)
			}
		}
		for _, width := range []int{math.MinInt, -1, 0, 5, math.MaxInt} {
			for _, at := range []int{math.MinInt, -1, 0, 1, len(s), math.MaxInt} {
				wantGet(t, s, at, width, 0, api.ErrArg)
			}
		}
	}
}

// P1.2
func TestClamp(t *testing.T) {
	for _, c := range []struct{ n, low, high, want int }{
		{3, 1, 5, 3}, {1, 1, 5, 1}, {5, 1, 5, 5}, {0, 1, 5, 1}, {6, 1, 5, 5}, {2, 2, 2, 2}, {9, 2, 2, 2}, {-9, 2, 2, 2},
		{-7, -9, -5, -7}, {-10, -9, -5, -9}, {0, -9, -5, -5},
		{3, 5, 1, 5}, {0, 5, 1, 5}, {9, 5, 1, 5}, {5, 5, 4, 5}, {9, 1, -1, 1},
		{math.MinInt, 0, 9, 0}, {math.MaxInt, 0, 9, 9}, {7, math.MinInt, math.MaxInt, 7}, {7, math.MaxInt, math.MinInt, math.MaxInt},
		{math.MaxInt, math.MinInt, math.MaxInt, math.MaxInt}, {math.MinInt, math.MinInt, math.MaxInt, math.MinInt},
	} {
		if got := num.Clamp(c.n, c.low, c.high); got != c.want {
			t.Errorf("Clamp(%d, %d, %d): %d, not %d", c.n, c.low, c.high, got, c.want)
		}
	}
}

// P1.2
func TestModSmall(t *testing.T) {
	for _, c := range []struct{ n, by, want int }{
		{-1, 5, 4}, {7, 5, 2}, {5, 5, 0}, {4, 5, 4}, {0, 5, 0}, {-5, 5, 0}, {-6, 5, 4}, {-10, 5, 0},
		{7, 1, 0}, {-7, 1, 0}, {7, 0, 0}, {7, -1, 0}, {7, -3, 0}, {-7, -3, 0},
		{math.MinInt, -1, 0}, {math.MinInt, math.MinInt, 0}, {math.MaxInt, math.MaxInt, 0}, {-1, math.MaxInt, math.MaxInt - 1}, {math.MinInt, math.MaxInt, math.MaxInt - 1},
	} {
		if got := num.Mod(c.n, c.by); got != c.want {
			t.Errorf("Mod(%d, %d): %d, not %d", c.n, c.by, got, c.want)
		}
	}
}

// P1.2: held against whole numbers without a limit, so that nothing wraps round unseen.
func TestModEdges(t *testing.T) {
	for _, n := range edges() {
		for _, by := range edges() {
			want := 0
			if by >= 1 {
				want = int(new(big.Int).Mod(big.NewInt(int64(n)), big.NewInt(int64(by))).Int64())
			}
			if got := num.Mod(n, by); got != want {
				t.Errorf("Mod(%d, %d): %d, not %d", n, by, got, want)
			}
		}
	}
}

// P1.2
func TestSat(t *testing.T) {
	for _, c := range []struct{ n, most, want int }{
		{4, 9, 5}, {8, 9, 9}, {9, 9, 9}, {10, 9, 9}, {0, 9, 1}, {0, 1, 1}, {0, 0, 0}, {1, 0, 0},
		{-1, 9, 0}, {-1, 0, 0}, {-1, -1, 0}, {3, -1, 0}, {math.MinInt, 9, 0}, {math.MinInt, math.MinInt, 0}, {9, math.MinInt, 0},
		{math.MaxInt, 9, 9}, {math.MaxInt, math.MaxInt, math.MaxInt}, {math.MaxInt - 1, math.MaxInt, math.MaxInt}, {math.MaxInt, math.MaxInt - 1, math.MaxInt - 1}, {math.MaxInt, -1, 0}, {math.MaxInt, 0, 0},
		{api.MaxCount - 1, api.MaxCount, api.MaxCount}, {api.MaxCount, api.MaxCount, api.MaxCount},
	} {
		if got := num.Sat(c.n, c.most); got != c.want {
			t.Errorf("Sat(%d, %d): %d, not %d", c.n, c.most, got, c.want)
		}
	}
}

// P1.3: wherever Put answers a text, Get of it is the number, with other bytes around it too.
func TestGetOfPut(t *testing.T) {
	numbers := edges()
	for n := range 70000 {
		numbers = append(numbers, n)
	}
	for _, n := range numbers {
		for width := 1; width <= 4; width++ {
			s, e := num.Put(n, width)
			fits := n >= 0 && n < 1<<(8*width)
			if fits != (e == api.OK) || fits && len(s) != width {
				t.Fatalf("Put(%d, %d): %q %d", n, width, s, e)
			}
			if fits {
				wantGet(t, s, 0, width, n, api.OK)
				wantGet(t, "\xff\xfe"+s+"\xfd", 2, width, n, api.OK)
			}
		}
	}
}
