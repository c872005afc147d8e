package ring_test

import (
	"math"
	"math/big"
	"testing"

	"bellwether/api"
	"bellwether/ring"
)

// edges are numbers at which a clock turns, or at which a sum of two might be too great.
func edges() []int {
	out := []int{math.MinInt, math.MinInt + 1, math.MaxInt - 1, math.MaxInt}
	for _, at := range []int{-1 << 40, -65536, -32768, 0, 32768, 65536, 131072, 1 << 31, 1 << 32, 1 << 62} {
		out = append(out, at-2, at-1, at, at+1, at+2)
	}
	return append(out, 12345, 54321, -777)
}

// left is what is left of n by Wrap, reckoned without limits.
func left(n *big.Int) int {
	return int(new(big.Int).Mod(n, big.NewInt(api.Wrap)).Int64())
}

func big64(n int) *big.Int {
	return big.NewInt(int64(n))
}

func want(t *testing.T, call string, a, b, got, want int) {
	t.Helper()
	if got != want {
		t.Errorf("%s(%d, %d): %d, not %d", call, a, b, got, want)
	}
}

// P5.1
func TestPut(t *testing.T) {
	for n, clock := range map[int]int{
		0: 0, 1: 1, 65535: 65535, 65536: 0, 65537: 1, 70000: 4464, 131071: 65535, 131072: 0,
		-1: 65535, -65535: 1, -65536: 0, -65537: 65535, math.MaxInt: 65535, math.MinInt: 0, math.MinInt + 1: 1,
	} {
		want(t, "Put", n, 0, ring.Put(n), clock)
	}
	for _, n := range edges() {
		want(t, "Put", n, 0, ring.Put(n), left(big64(n)))
	}
}

// P5.1
func TestAdd(t *testing.T) {
	for _, x := range [][3]int{
		{0, 0, 0}, {7, 5, 12}, {65530, 5, 65535}, {65530, 6, 0}, {65530, 9, 3}, {65535, 65535, 65534}, {3, -4, 65535}, {3, -3, 0}, {3, 65536, 3},
		{math.MaxInt, math.MaxInt, 65534}, {math.MaxInt, 1, 0}, {math.MinInt, -1, 65535}, {math.MinInt, math.MinInt, 0},
	} {
		want(t, "Add", x[0], x[1], ring.Add(x[0], x[1]), x[2])
	}
}

// P5.1
func TestDiff(t *testing.T) {
	for _, x := range [][3]int{
		{5, 5, 0}, {9, 5, 4}, {3, 65530, 9}, {65530, 3, 65527}, {0, 65535, 1}, {65535, 0, 65535}, {65536, 0, 0}, {-1, 0, 65535}, {0, -1, 1},
		{math.MaxInt, math.MinInt, 65535}, {math.MinInt, math.MaxInt, 1},
	} {
		want(t, "Diff", x[0], x[1], ring.Diff(x[0], x[1]), x[2])
	}
}

// P5.1: half of the way round counts as behind.
func TestSigned(t *testing.T) {
	for _, x := range [][3]int{
		{5, 5, 0}, {9, 5, 4}, {5, 9, -4}, {3, 65530, 9}, {65530, 3, -9}, {0, 65535, 1}, {65535, 0, -1},
		{32766, 0, 32766}, {32767, 0, 32767}, {32768, 0, -32768}, {32769, 0, -32767},
		{0, 32767, -32767}, {0, 32768, -32768}, {0, 32769, 32767}, {40000 + 32768, 40000, -32768}, {40000 + 32767, 40000, 32767},
		{65536, 0, 0}, {math.MaxInt, math.MinInt, -1}, {math.MinInt, math.MaxInt, 1},
	} {
		want(t, "Signed", x[0], x[1], ring.Signed(x[0], x[1]), x[2])
	}
}

// P5.1
func TestBefore(t *testing.T) {
	for _, x := range []struct {
		a, b   int
		before bool
	}{
		{65530, 3, true}, {3, 65530, false}, {7, 7, false}, {7, 65543, false}, {6, 7, true}, {7, 6, false},
		{0, 32767, true}, {32767, 0, false}, {0, 32768, true}, {32768, 0, true}, {0, 32769, false}, {32769, 0, true},
		{math.MaxInt, math.MinInt, true}, {math.MinInt, math.MaxInt, false},
	} {
		if got := ring.Before(x.a, x.b); got != x.before {
			t.Errorf("Before(%d, %d): %t", x.a, x.b, got)
		}
	}
}

// P5.1, P8: of all numbers, each counts as what is left of it.
func TestAnyNumbers(t *testing.T) {
	for _, a := range edges() {
		for _, b := range edges() {
			diff := left(new(big.Int).Sub(big64(a), big64(b)))
			signed := diff
			if diff >= 32768 {
				signed = diff - 65536
			}
			want(t, "Add", a, b, ring.Add(a, b), left(new(big.Int).Add(big64(a), big64(b))))
			want(t, "Diff", a, b, ring.Diff(a, b), diff)
			want(t, "Signed", a, b, ring.Signed(a, b), signed)
			if got := ring.Before(a, b); got != (signed < 0) {
				t.Errorf("Before(%d, %d): %t", a, b, got)
			}
		}
	}
}

// P5.2: what was added is what it is apart.
func TestDiffOfAdd(t *testing.T) {
	for _, clock := range edges() {
		for _, units := range edges() {
			want(t, "Diff of Add", clock, units, ring.Diff(ring.Add(clock, units), clock), ring.Put(units))
		}
	}
}

// P5.2: there and back again is once round, or no way at all.
func TestDiffBothWays(t *testing.T) {
	for _, a := range edges() {
		for _, b := range edges() {
			round := api.Wrap
			if ring.Put(a) == ring.Put(b) {
				round = 0
			}
			want(t, "Diff both ways", a, b, ring.Diff(a, b)+ring.Diff(b, a), round)
		}
	}
}

// P5.2: all ways that are shorter than half of the way round, from places all over it.
func TestOneIsBefore(t *testing.T) {
	for _, clock := range []int{0, 1, 32767, 32768, 40000, 65534, 65535} {
		for units := 1; units < 32768; units++ {
			later := ring.Add(clock, units)
			if !ring.Before(clock, later) || ring.Before(later, clock) {
				t.Fatalf("%d is %d units later than %d", later, units, clock)
			}
		}
		if ring.Before(clock, clock) {
			t.Errorf("%d is before itself", clock)
		}
	}
}
