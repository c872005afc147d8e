package diag_test

import (
	"math"
	"math/rand"
	"slices"
	"testing"

	"bellwether/api"
	"bellwether/diag"
)

// edges are numbers around a counter's limits, and the least and the greatest ones.
func edges() []int {
	return []int{math.MinInt, math.MinInt + 1, -65536, -3, -1, 0, 1, 2, 65533, 65534, 65535, 65536, 70000, 1 << 32, math.MaxInt - 1, math.MaxInt}
}

// within is a number held to a counter's limits.
func within(n int) int {
	return min(max(n, 0), 65535)
}

// only is counters that are 0 but at one place.
func only(kind, n int) [6]int {
	var d [6]int
	d[kind] = n
	return d
}

// wild is counters that may be anything; small ones are frequent.
func wild(source *rand.Rand) [6]int {
	var d [6]int
	for i := range d {
		d[i] = edges()[source.Intn(len(edges()))]
		if source.Intn(2) == 0 {
			d[i] = source.Intn(65536)
		}
	}
	return d
}

func wantBump(t *testing.T, d [6]int, want [6]int, kinds ...int) {
	t.Helper()
	if got := diag.Bump(d, kinds...); got != want {
		t.Errorf("Bump(%v, %v): %v, not %v", d, kinds, got, want)
	}
}

// P9.1, the chapter's example among them.
func TestBump(t *testing.T) {
	wantBump(t, [6]int{}, [6]int{2}, 0, 0, 9)
	wantBump(t, [6]int{1, 2, 3, 4, 5, 6}, [6]int{2, 3, 4, 5, 6, 7}, 0, 1, 2, 3, 4, 5)
	wantBump(t, [6]int{1, 2, 3, 4, 5, 6}, [6]int{1, 2, 6, 4, 5, 8}, 2, 5, 2, 5, 2)
	wantBump(t, [6]int{1, 2, 3, 4, 5, 6}, [6]int{1, 2, 3, 4, 5, 6})
	wantBump(t, [6]int{1, 2, 3, 4, 5, 6}, [6]int{1, 2, 3, 4, 5, 6}, []int(nil)...)
}

// P9.1: each kind is counted at the place that api names.
func TestBumpPlaces(t *testing.T) {
	for place, kind := range []int{api.DiagForm, api.DiagLate, api.DiagRate, api.DiagTwice, api.DiagFull, api.DiagWord} {
		wantBump(t, [6]int{}, only(place, 1), kind)
	}
}

// P9.1, P8: what is no counter's place is passed over, ahead of others and behind them.
func TestBumpNoKind(t *testing.T) {
	for _, kind := range []int{math.MinInt, -65536, -6, -1, 6, 7, 12, 65536, 1 << 32, math.MaxInt} {
		wantBump(t, [6]int{1, 2, 3, 4, 5, 6}, [6]int{1, 2, 3, 4, 5, 6}, kind)
		wantBump(t, [6]int{1, 2, 3, 4, 5, 6}, [6]int{1, 2, 3, 5, 5, 7}, kind, 3, kind, 5, kind)
	}
}

// P9.1: num.Sat of the counter, whatever that is; counters that nothing is counted of stay as they are.
func TestBumpLimits(t *testing.T) {
	others := [6]int{-4, 70000, 65535, math.MinInt, math.MaxInt, 9}
	for kind := range 6 {
		for _, c := range []struct{ n, next int }{
			{0, 1}, {65533, 65534}, {65534, 65535}, {65535, 65535}, {65536, 65535}, {70000, 65535}, {math.MaxInt, 65535}, {-1, 0}, {-7, 0}, {math.MinInt, 0},
		} {
			d, want := others, others
			d[kind], want[kind] = c.n, c.next
			wantBump(t, d, want, kind)
		}
	}
	wantBump(t, only(3, -5), only(3, 2), 3, 3, 3)
	wantBump(t, only(3, 65530), only(3, 65535), slices.Repeat([]int{3}, 20)...)
}

// P9.1
func TestClean(t *testing.T) {
	for _, n := range edges() {
		for kind := range 6 {
			if got := diag.Clean(only(kind, n)); got != only(kind, within(n)) {
				t.Errorf("Clean of %d at %d: %v", n, kind, got)
			}
		}
	}
	if got := diag.Clean([6]int{-1, 70000, 3, 65535, 65536, 0}); got != [6]int{0, 65535, 3, 65535, 65535, 0} {
		t.Error("Clean:", got)
	}
}

// P9.1: both are cleaned ahead of the sum, so that less than 0 takes nothing away, and nothing wraps round.
func TestAdd(t *testing.T) {
	for _, a := range edges() {
		for _, b := range edges() {
			for kind := range 6 {
				want := only(kind, min(within(a)+within(b), 65535))
				if got := diag.Add(only(kind, a), only(kind, b)); got != want {
					t.Errorf("Add of %d and %d at %d: %v", a, b, kind, got)
				}
			}
		}
	}
	if got := diag.Add([6]int{1, 2, 3, 4, 5, 6}, [6]int{10, 20, 30, 40, 50, 60}); got != [6]int{11, 22, 33, 44, 55, 66} {
		t.Error("Add:", got)
	}
}

// P9.1
func TestTotal(t *testing.T) {
	most := [6]int{65535, 65535, 65535, 65535, 65535, 65535}
	for _, c := range []struct {
		d    [6]int
		want int
	}{
		{[6]int{}, 0}, {[6]int{1, 20, 300, 4000, 50000, 6}, 54327}, {[6]int{1, 70000, -5, 2}, 65538}, {most, 6 * 65535},
		{[6]int{math.MaxInt, math.MaxInt, math.MaxInt, math.MaxInt, math.MaxInt, math.MaxInt}, 6 * 65535},
		{[6]int{math.MinInt, -1, math.MinInt, -1, -65536, math.MinInt}, 0}, {[6]int{math.MinInt, 7, math.MaxInt}, 65542},
	} {
		if got := diag.Total(c.d); got != c.want {
			t.Errorf("Total(%v): %d, not %d", c.d, got, c.want)
		}
	}
	for kind := range 6 {
		for _, n := range edges() {
			if got := diag.Total(only(kind, n)); got != within(n) {
				t.Errorf("Total of %d at %d: %d", n, kind, got)
			}
		}
	}
}

// P9.2: all errors that there are, and numbers that are none.
func TestKind(t *testing.T) {
	kinds := map[api.Errno]int{
		api.ErrForm: 0, api.ErrWord: 0, api.ErrSlot: 0, api.ErrArg: 0, api.ErrText: 0, api.ErrSum: 0, api.ErrShort: 0, api.ErrLong: 0, api.ErrNode: 0,
		api.ErrLate: 1, api.ErrRate: 2, api.ErrTwice: 3, api.ErrFull: 4,
	}
	errors := []api.Errno{math.MinInt, -1 << 32, 1 << 32, 1<<32 + 3, math.MaxInt}
	for e := api.Errno(-300); e <= 300; e++ {
		errors = append(errors, e)
	}
	for _, e := range errors {
		want, counted := kinds[e]
		if !counted {
			want = -1
		}
		if got := diag.Kind(e); got != want {
			t.Errorf("Kind(%d): %d, not %d", e, got, want)
		}
	}
}

// P9.2: what Kind answers can be counted, and -1 counts nothing.
func TestKindIsCounted(t *testing.T) {
	wantBump(t, [6]int{}, [6]int{9, 1, 1, 1, 1, 0}, func() (kinds []int) {
		for e := api.OK; e <= api.ErrRate; e++ {
			kinds = append(kinds, diag.Kind(e))
		}
		return kinds
	}()...)
}

// holds tells whether counters are within their limits, and none is below what it was.
func holds(before, d [6]int) bool {
	for i, n := range d {
		if n < before[i] || n != within(n) {
			return false
		}
	}
	return true
}

// P9.3: over long runs counters are within their limits, and none goes down.
func TestNeverDown(t *testing.T) {
	source := rand.New(rand.NewSource(9))
	for range 200 {
		d := diag.Clean(wild(source))
		for range 50 {
			kinds := make([]int, source.Intn(9))
			for i := range kinds {
				kinds[i] = source.Intn(10) - 2
			}
			bumped := diag.Bump(d, kinds...)
			added := diag.Add(bumped, wild(source))
			if !holds(d, bumped) || !holds(bumped, added) {
				t.Fatalf("%v, with %v: %v, and with more: %v", d, kinds, bumped, added)
			}
			if total := diag.Total(added); total < diag.Total(bumped) || total > 6*65535 {
				t.Fatalf("Total(%v): %d", added, total)
			}
			d = bumped
		}
	}
}

// P9.3: in which order kinds are counted, one by one or all at once, does not matter; nor does which of two is added to the other.
func TestOrderDoesNotMatter(t *testing.T) {
	source := rand.New(rand.NewSource(39))
	for range 2000 {
		d, other := wild(source), wild(source)
		kinds := make([]int, source.Intn(12))
		for i := range kinds {
			kinds[i] = source.Intn(8) - 1
		}
		want := diag.Bump(d, kinds...)
		source.Shuffle(len(kinds), func(i, j int) { kinds[i], kinds[j] = kinds[j], kinds[i] })
		wantBump(t, d, want, kinds...)
		one := d
		for _, kind := range kinds {
			one = diag.Bump(one, kind)
		}
		if one != want {
			t.Fatalf("%v one by one of %v: %v, not %v", kinds, d, one, want)
		}
		if a, b := diag.Add(d, other), diag.Add(other, d); a != b {
			t.Fatalf("%v and %v: %v, turned round %v", d, other, a, b)
		}
		if once := diag.Clean(d); diag.Clean(once) != once || diag.Add(d, [6]int{}) != once || diag.Total(once) != diag.Total(d) {
			t.Fatalf("Clean(%v): %v", d, once)
		}
	}
}

// Rule 4: the kinds that are handed in are not changed.
func TestKindsStay(t *testing.T) {
	kinds := []int{5, -1, 0, 9, 3, 3}
	before := slices.Clone(kinds)
	diag.Bump([6]int{}, kinds...)
	if !slices.Equal(kinds, before) {
		t.Error("changed:", kinds)
	}
}
