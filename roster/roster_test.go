package roster_test

import (
	"math"
	"math/rand"
	"slices"
	"strings"
	"testing"

	"bellwether/api"
	"bellwether/gate"
	"bellwether/roster"
	"bellwether/samples"
)

// of is a configuration of which the number of nodes alone is asked.
func of(n int) api.Conf {
	return api.Conf{N: n}
}

// sizes are numbers of nodes, ordinary ones and others.
func sizes() []int {
	return append(samples.Wild(), 0, 1, 2, 3, 4, 7, 13, 32)
}

// width is how many digits a row of n nodes has.
func width(n int) int {
	return min(max(n, 0), 64)
}

// marks are rows of any kind, those of four nodes among them.
func marks(source *rand.Rand) []string {
	out := samples.Marks()
	for n := range 16 {
		row := []byte("0000")
		for place := range row {
			row[place] += byte(n >> place & 1)
		}
		out = append(out, string(row))
	}
	for range 100 {
		out = append(out, samples.Text(source.Intn, source.Intn(80), "0101x"))
	}
	return out
}

func wantMark(t *testing.T, want string, c api.Conf, marks string, nodes ...int) {
	t.Helper()
	if got := roster.Mark(c, marks, nodes...); got != want {
		t.Errorf("Mark(N %d, %q, %v): %q, not %q", c.N, marks, nodes, got, want)
	}
}

func wantHas(t *testing.T, marks string, node int, want bool) {
	t.Helper()
	if got := roster.Has(marks, node); got != want {
		t.Errorf("Has(%q, %d): %t", marks, node, got)
	}
}

// wantNodes asks Count too.
func wantNodes(t *testing.T, marks string, want ...int) {
	t.Helper()
	if got := roster.Nodes(marks); !slices.Equal(got, want) {
		t.Errorf("Nodes(%q): %v, not %v", marks, got, want)
	}
	if got := roster.Count(marks); got != len(want) {
		t.Errorf("Count(%q): %d, not %d", marks, got, len(want))
	}
}

func wantLacks(t *testing.T, n int, marks string, want ...int) {
	t.Helper()
	if got := roster.Lacks(of(n), marks); !slices.Equal(got, want) {
		t.Errorf("Lacks(N %d, %q): %v, not %v", n, marks, got, want)
	}
}

// wantBoth asks in both orders.
func wantBoth(t *testing.T, n int, a, b, want string) {
	t.Helper()
	if got := roster.Both(of(n), a, b); got != want {
		t.Errorf("Both(N %d, %q, %q): %q, not %q", n, a, b, got, want)
	}
	if got := roster.Both(of(n), b, a); got != want {
		t.Errorf("Both(N %d, %q, %q): %q, not %q", n, b, a, got, want)
	}
}

// P25.1: N digits, N counting as from 0 to 64, whatever else the configuration has.
func TestBlank(t *testing.T) {
	for n, want := range map[int]int{math.MinInt: 0, -65536: 0, -1: 0, 0: 0, 1: 1, 4: 4, 13: 13, 14: 14, 63: 63, 64: 64, 65: 64, 70: 64, 1 << 32: 64, math.MaxInt: 64} {
		if got := roster.Blank(of(n)); got != strings.Repeat("0", want) {
			t.Errorf("Blank(N %d): %q", n, got)
		}
	}
	for _, c := range append(samples.Wrong(), samples.Small(), samples.Sized(13, 4, 4)) {
		if got := roster.Blank(c); got != strings.Repeat("0", width(c.N)) {
			t.Errorf("Blank(%v): %q", c, got)
		}
	}
}

// P25.1: the chapter's example, and others by hand.
func TestMarkExamples(t *testing.T) {
	c := of(4)
	wantMark(t, "0101", c, "01", 3)
	wantMark(t, "0100", c, "01")
	wantMark(t, "0100", c, "01", nil...)
	wantMark(t, "0101", samples.Small(), "01", 3)
	wantMark(t, "0101", c, "01", 3, 3, 1)
	wantMark(t, "1111", c, "", 3, 1, 0, 2)
	wantMark(t, "0100", c, "01", 4, -1, math.MaxInt, math.MinInt)
	wantMark(t, "1100", c, "01", 4, -1, 0)
	wantMark(t, "1111", c, "11111x")
	wantMark(t, "0001", c, "2x01")
	wantMark(t, "", of(0), "1", 0)
	wantMark(t, "", of(-4), "1", 0)
	wantMark(t, "1", of(1), "", 0)
	wantMark(t, strings.Repeat("0", 63)+"1", of(70), "", 63, 64, 69)
}

// P25.1, P8: Mark is the gate's.
func TestMarkIsTheGates(t *testing.T) {
	source := rand.New(rand.NewSource(251))
	for _, m := range marks(source) {
		for _, n := range sizes() {
			nodes := []int{source.Intn(70) - 3, source.Intn(14)}
			wantMark(t, gate.Mark(m, n), of(n), m)
			wantMark(t, gate.Mark(m, n, nodes...), of(n), m, nodes...)
			wantMark(t, gate.Mark(m, n, samples.Wild()...), of(n), m, samples.Wild()...)
		}
	}
}

// P25.1
func TestBothExamples(t *testing.T) {
	wantBoth(t, 4, "01111", "110x", "0100")
	wantBoth(t, 4, "1010", "0101", "0000")
	wantBoth(t, 4, "1111", "1111", "1111")
	wantBoth(t, 4, "1111", "", "0000")
	wantBoth(t, 4, "1111", "11", "1100")
	wantBoth(t, 4, "xxxx", "xxxx", "0000")
	wantBoth(t, 4, "1x1\x01", "11x\x01", "1000")
	wantBoth(t, 2, "1111", "1111", "11")
	wantBoth(t, 6, "1111", "11111", "111100")
	wantBoth(t, 0, "1111", "1111", "")
	wantBoth(t, -1, "1111", "1111", "")
	wantBoth(t, 70, strings.Repeat("1", 80), strings.Repeat("1", 64), strings.Repeat("1", 64))
}

// bothAsTold is Both once more, straight from the chapter's words.
func bothAsTold(n int, a, b string) string {
	out := ""
	for place := range width(n) {
		if place < len(a) && place < len(b) && a[place] == '1' && b[place] == '1' {
			out += "1"
		} else {
			out += "0"
		}
	}
	return out
}

// P25.1, P25.3, P8: both of any two rows, in any order, and of a row with itself.
func TestBothAsTold(t *testing.T) {
	source := rand.New(rand.NewSource(252))
	all := marks(source)
	for _, a := range all {
		for _, n := range sizes() {
			b := all[source.Intn(len(all))]
			wantBoth(t, n, a, b, bothAsTold(n, a, b))
			wantBoth(t, n, a, a, gate.Mark(a, n))
			row := roster.Mark(of(n), a)
			wantBoth(t, n, row, row, row)
		}
	}
}

// P25.2, P8
func TestHas(t *testing.T) {
	wantHas(t, "01", 1, true)
	wantHas(t, "01", 0, false)
	for _, m := range samples.Marks() {
		for _, node := range append(samples.Wild(), 0, 1, 2, 3, 4, len(m)-1, len(m), len(m)+1) {
			wantHas(t, m, node, node >= 0 && node < len(m) && m[node] == '1')
		}
	}
	wantHas(t, strings.Repeat("1", 65), 64, true) // a place behind those that a row may have is one of the text
}

// P25.2
func TestNodesExamples(t *testing.T) {
	wantNodes(t, "")
	wantNodes(t, "0000")
	wantNodes(t, "01x1", 1, 3)
	wantNodes(t, "0x111", 2, 3, 4)
	wantNodes(t, "1111", 0, 1, 2, 3)
	wantNodes(t, "é1", 2) // places are counted by bytes
	wantNodes(t, "１1", 3)
	wantNodes(t, "\xff1\xff", 1)
	wantNodes(t, strings.Repeat("0", 70)+"1", 70)
}

// P25.2
func TestLacksExamples(t *testing.T) {
	wantLacks(t, 4, "01", 0, 2, 3)
	wantLacks(t, 4, "", 0, 1, 2, 3)
	wantLacks(t, 4, "1111")
	wantLacks(t, 4, "11110")
	wantLacks(t, 4, "1x1é", 1, 3)
	wantLacks(t, 2, "0000", 0, 1)
	wantLacks(t, 0, "0000")
	wantLacks(t, -1, "0000")
	wantLacks(t, 70, strings.Repeat("1", 62), 62, 63)
	wantLacks(t, math.MaxInt, strings.Repeat("1", 64))
}

// P25.2, P8: places one by one, straight from the chapter's words.
func TestPlacesAsTold(t *testing.T) {
	source := rand.New(rand.NewSource(253))
	for _, m := range marks(source) {
		var nodes []int
		for place := range len(m) {
			if m[place] == '1' {
				nodes = append(nodes, place)
			}
		}
		wantNodes(t, m, nodes...)
		for _, n := range sizes() {
			var lacks []int
			for place := range width(n) {
				if !slices.Contains(nodes, place) {
					lacks = append(lacks, place)
				}
			}
			wantLacks(t, n, m, lacks...)
		}
	}
}

// P25.3: of a row of N digits those that are marked and those that are not are N, and none is both.
func TestMarkedOrNot(t *testing.T) {
	source := rand.New(rand.NewSource(254))
	for _, m := range marks(source) {
		for _, n := range sizes() {
			row := roster.Mark(of(n), m)
			all := append(roster.Nodes(row), roster.Lacks(of(n), row)...)
			slices.Sort(all)
			if len(all) != width(n) {
				t.Fatalf("%q of %d nodes: %v", row, n, all)
			}
			for place, node := range all {
				if place != node {
					t.Fatalf("%q of %d nodes: %v", row, n, all)
				}
			}
		}
	}
}

// P25.3: a node that is marked is one, and no other one is lost or won.
func TestMarkOne(t *testing.T) {
	source := rand.New(rand.NewSource(255))
	for _, m := range marks(source) {
		for _, n := range []int{1, 4, 13, 64} {
			row, node := roster.Mark(of(n), m), source.Intn(n)
			next := roster.Mark(of(n), row, node)
			for other := range n {
				wantHas(t, next, other, other == node || roster.Has(row, other))
			}
		}
	}
}

// Rules 4 and 5: what is handed in is neither changed nor kept, and no two answers share memory.
func TestListsAreOwn(t *testing.T) {
	c, nodes := samples.Small(), []int{3, 9, -1}
	first := roster.Mark(c, "01", nodes...)
	if !slices.Equal(nodes, []int{3, 9, -1}) || !slices.Equal(c.Table, []int{0, 1, 2, 3}) {
		t.Errorf("changed: %v, %v", nodes, c.Table)
	}
	nodes[0] = 0
	if first != "0101" {
		t.Errorf("%q behind writing into the nodes", first)
	}
	a, b := roster.Nodes("0111"), roster.Lacks(c, "1")
	for _, list := range [][]int{a, b} {
		clear(list)
		_ = append(list, 9, 9)
	}
	wantNodes(t, "0111", 1, 2, 3)
	wantLacks(t, 4, "1", 1, 2, 3)
}
