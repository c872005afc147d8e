package plan_test

import (
	"math"
	"slices"
	"testing"

	"bellwether/api"
	"bellwether/conf"
	"bellwether/plan"
	"bellwether/samples"
)

// wildNumbers are no ages of an exchange, and no exchanges.
func wildNumbers() []int {
	out := []int{-1 << 33, -1 << 32, 1 << 32, 1 << 33}
	for n := range 70 {
		out = append(out, math.MinInt+n, -1-n, math.MaxInt-n)
	}
	return out
}

// pair is an exchange, and when it is told.
type pair struct {
	x, age int
}

// gone is what Ages goes through, up to some of them.
func gone(c api.Conf, most int) []pair {
	var out []pair
	for x, age := range plan.Ages(c) {
		out = append(out, pair{x, age})
		if len(out) == most {
			break
		}
	}
	return out
}

// wantAge holds Tells and Hears to what is asked at an age.
func wantAge(t *testing.T, c api.Conf, age, tells, hears int) {
	t.Helper()
	if got := plan.Tells(c, age); got != tells {
		t.Errorf("F %d, D %d: Tells(%d): %d, not %d", c.F, c.D, age, got, tells)
	}
	if got := plan.Hears(c, age); got != hears {
		t.Errorf("F %d, D %d: Hears(%d): %d, not %d", c.F, c.D, age, got, hears)
	}
}

// P15.1: the chapter's example.
func TestExample(t *testing.T) {
	c := samples.Sized(4, 1, 2)
	for age, want := range [][2]int{{0, -1}, {-1, -1}, {1, 0}, {-1, -1}, {2, 1}, {-1, -1}, {3, 2}, {-1, -1}, {4, 3}, {-1, -1}, {5, 4}, {-1, -1}, {-1, 5}, {-1, -1}, {-1, -1}} {
		wantAge(t, c, age, want[0], want[1])
	}
	if got := gone(c, -1); !slices.Equal(got, []pair{{0, 0}, {1, 2}, {2, 4}, {3, 6}, {4, 8}, {5, 10}}) {
		t.Error("Ages:", got)
	}
}

// P15.1: exchange x is told at x D, and heard at (x + 1) D; at any other age nothing is.
func TestTellsAndHears(t *testing.T) {
	for _, c := range samples.Confs() {
		tells, hears := slices.Repeat([]int{-1}, 200), slices.Repeat([]int{-1}, 200)
		for x := range 3 * (c.F + 1) {
			tells[x*c.D], hears[(x+1)*c.D] = x, x
		}
		for age := range tells {
			wantAge(t, c, age, tells[age], hears[age])
		}
	}
}

// P15.1, P8: ages below 0 and the greatest ones.
func TestWildAges(t *testing.T) {
	for _, c := range samples.Confs() {
		for _, age := range wildNumbers() {
			wantAge(t, c, age, -1, -1)
		}
	}
}

// P15.1
func TestKing(t *testing.T) {
	for _, c := range samples.Confs() {
		for x := range 100 {
			want := x / 3
			if x >= 3*(c.F+1) {
				want = -1
			}
			if got := plan.King(c, x); got != want {
				t.Errorf("F %d: King(%d): %d, not %d", c.F, x, got, want)
			}
		}
		for _, x := range wildNumbers() {
			if got := plan.King(c, x); got != -1 {
				t.Errorf("F %d: King(%d): %d", c.F, x, got)
			}
		}
	}
}

// P15.1: all exchanges from 0 on, and no more of them once who goes through has stopped; again from the beginning each time.
func TestAges(t *testing.T) {
	for _, c := range samples.Confs() {
		var want []pair
		for x := range 3 * (c.F + 1) {
			want = append(want, pair{x, x * c.D})
		}
		if got := gone(c, -1); !slices.Equal(got, want) {
			t.Errorf("F %d, D %d: %v", c.F, c.D, got)
		}
		for most := 1; most <= len(want); most++ {
			if got := gone(c, most); !slices.Equal(got, want[:most]) {
				t.Errorf("F %d, D %d, %d of them: %v", c.F, c.D, most, got)
			}
		}
		ages := plan.Ages(c)
		for range 3 {
			n := 0
			for x, age := range ages {
				if (pair{x, age}) != want[n] {
					t.Error("again:", x, age)
				}
				n++
			}
			if n != len(want) {
				t.Error("again:", n)
			}
		}
	}
}

// P15.1: going through it side by side with itself.
func TestAgesWithinAges(t *testing.T) {
	c := samples.Sized(7, 2, 3)
	ages, n := plan.Ages(c), 0
	for x, age := range ages {
		inner := 0
		for y, other := range ages {
			if y != inner || other != 3*y || age != 3*x {
				t.Fatal(x, age, y, other)
			}
			inner++
		}
		n += inner
	}
	if n != 81 {
		t.Error(n, "pairs")
	}
}

// P15.1: of what is not plain -1, and nothing.
func TestNotPlain(t *testing.T) {
	for _, c := range samples.Wrong() {
		if conf.Plain(c) == api.OK {
			t.Fatalf("%+v is plain", c)
		}
		for _, n := range append(wildNumbers(), 0, 1, 2, 3, 4, 5, 6, 7) {
			wantAge(t, c, n, -1, -1)
			if got := plan.King(c, n); got != -1 {
				t.Errorf("%+v: King(%d): %d", c, n, got)
			}
		}
		if got := gone(c, 1); got != nil {
			t.Errorf("%+v: Ages: %v", c, got)
		}
	}
}

// P15.2: what is told at an age is heard D ticks later, and nothing else.
func TestToldIsHeard(t *testing.T) {
	for _, c := range samples.Confs() {
		for age := -50; age < 200; age++ {
			if told, heard := plan.Tells(c, age), plan.Hears(c, age+c.D); told != heard {
				t.Errorf("F %d, D %d: told at %d: %d, heard then %d", c.F, c.D, age, told, heard)
			}
		}
		for x, age := range plan.Ages(c) {
			if plan.Tells(c, age) != x || plan.Hears(c, age+c.D) != x {
				t.Errorf("F %d, D %d: exchange %d at %d", c.F, c.D, x, age)
			}
		}
	}
}

// P15.2: each exchange is heard once, the last one when the instance is done; each king has three of them.
func TestHeardOnce(t *testing.T) {
	for _, c := range samples.Confs() {
		heard, kings := map[int]int{}, map[int]int{}
		for age := -50; age < 200; age++ {
			if x := plan.Hears(c, age); x >= 0 {
				heard[x]++
				kings[plan.King(c, x)]++
			}
		}
		for x := range conf.Rounds(c) {
			if heard[x] != 1 {
				t.Errorf("F %d, D %d: exchange %d is heard %d times", c.F, c.D, x, heard[x])
			}
		}
		for king := range c.F + 1 {
			if kings[king] != 3 {
				t.Errorf("F %d, D %d: king %d has %d exchanges", c.F, c.D, king, kings[king])
			}
		}
		if len(heard) != conf.Rounds(c) || len(kings) != c.F+1 {
			t.Errorf("F %d, D %d: %v, %v", c.F, c.D, heard, kings)
		}
		if got := plan.Hears(c, conf.Length(c)); got != conf.Rounds(c)-1 {
			t.Errorf("F %d, D %d: when it is done %d is heard", c.F, c.D, got)
		}
	}
}

// Rules 4 and 5: the table is not changed, and writing into it later changes nothing.
func TestTableIsNotKept(t *testing.T) {
	c := samples.Sized(4, 1, 1)
	ages := plan.Ages(c)
	c.Table[0] = 99
	n := 0
	for range ages {
		n++
	}
	if n != 6 {
		t.Error("of a table that was right:", n)
	}
	ages = plan.Ages(c)
	c.Table[0] = 0
	for x := range ages {
		t.Error("of a table that was wrong:", x)
	}
	if plan.Tells(c, 5) != 5 || plan.Hears(c, 6) != 5 || plan.King(c, 5) != 1 || len(gone(c, -1)) != 6 || !slices.Equal(c.Table, []int{0, 1, 2, 3}) {
		t.Error("changed:", c.Table)
	}
}
