package tally_test

import (
	"math"
	"math/rand"
	"slices"
	"testing"

	"bellwether/api"
	"bellwether/tally"
)

// sized is a plain configuration of n nodes, f of which may be faulty.
func sized(n, f int) api.Conf {
	c := api.Conf{N: n, F: f, D: 1, Period: api.MaxPeriod, Rate: 64, Offset: 64, Slot: 190, Mod: 10, Fresh: 3}
	for slot := range n {
		c.Table = append(c.Table, slot)
	}
	return c
}

// confs are plain configurations of each N and F that there can be.
func confs() []api.Conf {
	var out []api.Conf
	for n := api.MinNodes; n <= api.MaxNodes; n++ {
		for f := 0; 3*f < n; f++ {
			out = append(out, sized(n, f))
		}
	}
	return out
}

// wrongConfs are configurations that are not plain: one of each error, and wild ones, of which a quorum would be 0 or less.
func wrongConfs() []api.Conf {
	out := []api.Conf{{}, {N: math.MaxInt, F: math.MinInt}, {N: math.MinInt, F: math.MaxInt}, {N: 1, F: 1}, {N: -4, F: -1}}
	for _, turn := range []func(c *api.Conf){
		func(c *api.Conf) { c.F = 2 },
		func(c *api.Conf) { c.F = -1 },
		func(c *api.Conf) { c.N = 14 },
		func(c *api.Conf) { c.D = 0 },
		func(c *api.Conf) { c.Period = 12 },
		func(c *api.Conf) { c.Table = c.Table[1:] },
	} {
		c := sized(4, 1)
		turn(&c)
		out = append(out, c)
	}
	return out
}

// wildNumbers are no votes.
func wildNumbers() []int {
	return []int{math.MinInt, math.MinInt + 1, -1 << 32, -3, -2, -1, 3, 4, 5, 9, 256, 257, 1 << 32, 1<<32 + 1, math.MaxInt - 1, math.MaxInt}
}

// repeated is n times v.
func repeated(v, n int) []int {
	return slices.Repeat([]int{v}, n)
}

// lists are all lists of n numbers from 0 to most.
func lists(n, most int) [][]int {
	out := [][]int{{}}
	for range n {
		var longer [][]int
		for _, list := range out {
			for v := range most + 1 {
				longer = append(longer, append(slices.Clone(list), v))
			}
		}
		out = longer
	}
	return out
}

// apart is at how many places two lists differ.
func apart(a, b []int) int {
	n := 0
	for i := range a {
		if a[i] != b[i] {
			n++
		}
	}
	return n
}

func wantMost(t *testing.T, c api.Conf, want int, votes ...int) {
	t.Helper()
	if got := tally.Most(c, votes...); got != want {
		t.Errorf("Most of %d nodes, %d faulty, %v: %d, not %d", c.N, c.F, votes, got, want)
	}
}

func wantLeast(t *testing.T, c api.Conf, want, now int, votes ...int) {
	t.Helper()
	if got := tally.Least(c, now, votes...); got != want {
		t.Errorf("Least of %d nodes, %d faulty, %d, %v: %d, not %d", c.N, c.F, now, votes, got, want)
	}
}

// P13.1
func TestQuorumAndSome(t *testing.T) {
	for _, c := range confs() {
		if q, s := tally.Quorum(c), tally.Some(c); q != c.N-c.F || s != c.F+1 {
			t.Errorf("of %d nodes, %d faulty: %d and %d", c.N, c.F, q, s)
		}
	}
	c := sized(13, 4)
	if tally.Quorum(c) != 9 || tally.Some(c) != 5 || tally.Quorum(sized(4, 0)) != 4 || tally.Some(sized(4, 0)) != 1 {
		t.Error("written out")
	}
}

// P13.1, P13.2: of what is not plain there is no quorum and none are some, however many votes there are.
func TestNotPlain(t *testing.T) {
	for _, c := range wrongConfs() {
		if q, s := tally.Quorum(c), tally.Some(c); q != 0 || s != 0 {
			t.Errorf("of %#v: %d and %d", c, q, s)
		}
		for v := range 3 {
			for _, n := range []int{0, 1, 4, 40} {
				votes := repeated(v, n)
				if tally.Enough(c, v, votes...) {
					t.Errorf("Enough of %#v and %v", c, votes)
				}
				wantMost(t, c, 2, votes...)
				for _, now := range append(wildNumbers(), 0, 1, 2) {
					wantLeast(t, c, now, now, votes...)
				}
			}
		}
	}
}

// P13.1: each vote is counted, at whatever place, and beyond N of them too; what is none is not.
func TestCount(t *testing.T) {
	source := rand.New(rand.NewSource(13))
	for range 500 {
		var votes []int
		want := [3]int{}
		for range source.Intn(60) {
			if source.Intn(3) == 0 {
				votes = append(votes, wildNumbers()[source.Intn(len(wildNumbers()))])
				continue
			}
			v := source.Intn(3)
			votes = append(votes, v)
			want[v]++
		}
		for v := range 3 {
			if got := tally.Count(v, votes...); got != want[v] {
				t.Fatalf("Count(%d, %v): %d, not %d", v, votes, got, want[v])
			}
		}
		for _, v := range wildNumbers() {
			if got := tally.Count(v, votes...); got != 0 {
				t.Fatalf("Count(%d, %v): %d", v, votes, got)
			}
		}
	}
	for _, v := range append(wildNumbers(), 0, 1, 2) {
		if tally.Count(v) != 0 || tally.Count(v, nil...) != 0 {
			t.Error("of no votes:", v)
		}
	}
}

// P13.1: a quorum and more are enough, one less is not.
func TestEnough(t *testing.T) {
	for _, c := range confs() {
		quorum := c.N - c.F
		for v := range 3 {
			for n := range 2 * api.MaxNodes {
				votes := append(repeated((v+1)%3, 3), repeated(v, n)...)
				if got := tally.Enough(c, v, votes...); got != (n >= quorum) {
					t.Errorf("Enough of %d nodes, %d faulty: %v of %d times %d", c.N, c.F, got, n, v)
				}
			}
		}
		for _, v := range wildNumbers() {
			if tally.Enough(c, v, repeated(v, 2*c.N)...) {
				t.Error("enough of no vote:", v)
			}
		}
	}
}

// P13.2: 1 goes ahead of 0, where there are more than N votes; a quorum of 2 says nothing.
func TestMost(t *testing.T) {
	for _, c := range confs() {
		quorum := c.N - c.F
		for v := range 2 {
			wantMost(t, c, v, repeated(v, quorum)...)
			wantMost(t, c, v, repeated(v, c.N)...)
			wantMost(t, c, v, append(repeated(v, quorum), repeated(1-v, c.F)...)...)
			wantMost(t, c, v, append(repeated(2, c.F), repeated(v, quorum)...)...)
			wantMost(t, c, v, append(wildNumbers(), repeated(v, quorum)...)...)
			wantMost(t, c, 2, append(repeated(v, quorum-1), repeated(1-v, c.F)...)...)
			wantMost(t, c, 2, append(wildNumbers(), repeated(v, quorum-1)...)...)
		}
		wantMost(t, c, 1, append(repeated(0, quorum), repeated(1, quorum)...)...)
		wantMost(t, c, 1, append(repeated(0, quorum+3), repeated(1, quorum)...)...)
		wantMost(t, c, 0, append(repeated(0, quorum), repeated(1, quorum-1)...)...)
		wantMost(t, c, 2, repeated(2, c.N)...)
		wantMost(t, c, 2)
		wantMost(t, c, 2, wildNumbers()...)
	}
}

// P13.2: the least one of which there are F + 1, though there are more of another; else now, whatever it is.
func TestLeast(t *testing.T) {
	for _, c := range confs() {
		some := c.F + 1
		for _, now := range append(wildNumbers(), 0, 1, 2) {
			for v := range 3 {
				wantLeast(t, c, v, now, repeated(v, some)...)
				wantLeast(t, c, v, now, append(wildNumbers(), repeated(v, some)...)...)
				wantLeast(t, c, now, now, repeated(v, some-1)...)
				few := append(repeated(0, some-1), append(repeated(1, some-1), repeated(2, some-1)...)...)
				wantLeast(t, c, now, now, few...)
				wantLeast(t, c, v, now, append(few, v)...)
				for higher := v + 1; higher < 3; higher++ {
					wantLeast(t, c, v, now, append(repeated(higher, 2*c.N), repeated(v, some)...)...)
					wantLeast(t, c, higher, now, append(repeated(higher, some), repeated(v, some-1)...)...)
				}
			}
			wantLeast(t, c, now, now)
			wantLeast(t, c, now, now, wildNumbers()...)
			for _, none := range wildNumbers() {
				wantLeast(t, c, now, now, repeated(none, 2*c.N)...)
			}
		}
	}
}

// The chapter's example.
func TestExample(t *testing.T) {
	c := sized(4, 1)
	wantMost(t, c, 1, 1, 1, 1, 0)
	wantMost(t, c, 2, 1, 1, 0, 0)
	wantLeast(t, c, 0, 2, 1, 1, 0, 0)
}

// follows tests P13.3 of two lists of N votes that differ at F places at most.
func follows(t *testing.T, c api.Conf, a, b []int) {
	t.Helper()
	if tally.Enough(c, 0, a...) && tally.Enough(c, 1, b...) {
		t.Fatalf("a quorum of 0 in %v, of 1 in %v", a, b)
	}
	for v := range 3 {
		if tally.Enough(c, v, a...) && tally.Count(v, b...) < tally.Some(c) {
			t.Fatalf("a quorum of %d in %v, and not some in %v", v, a, b)
		}
	}
	for v := range 2 {
		if tally.Enough(c, v, a...) {
			wantMost(t, c, v, a...)
			wantLeast(t, c, v, 2, a...)
		}
	}
}

// P13.3: all lists of few nodes, what is no vote (3) among them.
func TestWhatFollowsOfAllLists(t *testing.T) {
	for _, c := range []api.Conf{sized(4, 0), sized(4, 1)} {
		all := lists(c.N, 3)
		for _, a := range all {
			for _, b := range all {
				if apart(a, b) <= c.F {
					follows(t, c, a, b)
				}
			}
		}
	}
}

// P13.3: lists near a quorum, of any number of nodes.
func TestWhatFollowsOfManyLists(t *testing.T) {
	source := rand.New(rand.NewSource(133))
	for _, c := range confs() {
		for range 2000 {
			a := repeated(source.Intn(3), c.N)
			for range source.Intn(c.F + 2) {
				a[source.Intn(c.N)] = source.Intn(4)
			}
			b := slices.Clone(a)
			for _, place := range source.Perm(c.N)[:source.Intn(c.F+1)] {
				b[place] = source.Intn(4)
			}
			follows(t, c, a, b)
			follows(t, c, b, a)
		}
	}
}

// Rule 4: no list that is handed in is changed.
func TestListsAreNotChanged(t *testing.T) {
	c := sized(4, 1)
	votes := []int{1, 7, 1, -1, 0, 2}
	tally.Count(1, votes...)
	tally.Enough(c, 1, votes...)
	tally.Most(c, votes...)
	tally.Least(c, 2, votes...)
	tally.Quorum(c)
	tally.Some(c)
	if !slices.Equal(votes, []int{1, 7, 1, -1, 0, 2}) || !slices.Equal(c.Table, []int{0, 1, 2, 3}) {
		t.Error("changed:", votes, c.Table)
	}
}
