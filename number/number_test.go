package number_test

import (
	"math"
	"math/big"
	"math/rand"
	"slices"
	"strings"
	"testing"

	"bellwether/api"
	"bellwether/number"
	"bellwether/samples"
	"bellwether/vec"
)

// sized is a plain configuration of n nodes, whose numbers begin anew behind mod of them.
func sized(n, mod int) api.Conf {
	c := samples.Sized(n, 1, 1)
	c.Mod = mod
	return c
}

// mods are how many numbers there may be: the fewest, the most, and some between.
func mods() []int {
	return []int{2, 3, 7, 10, 128, 249, 250}
}

// numbers are such as there are of a Mod, and others.
func numbers(mod int) []int {
	out := []int{math.MaxInt, math.MaxInt - 1, math.MinInt, math.MinInt + 1, 1 << 32, -1 << 40, mod, mod + 1, 2*mod - 1, -1, -mod, -mod - 1}
	for n := range mod {
		out = append(out, n)
	}
	return out
}

// modOf is what is left of n and of some steps more, without a number that wraps round.
func modOf(n, steps, mod int) int {
	sum := new(big.Int).Add(big.NewInt(int64(n)), big.NewInt(int64(steps)))
	return int(sum.Mod(sum, big.NewInt(int64(mod))).Int64())
}

// mixed is a text of n bytes, bits most of them.
func mixed(source *rand.Rand, n int) string {
	return samples.Text(source.Intn, n, "0101010234")
}

func wantNext(t *testing.T, c api.Conf, own int, agreed string, want int) {
	t.Helper()
	if got := number.Next(c, own, agreed); got != want {
		t.Errorf("Next(Mod %d, %d, %q): %d, not %d", c.Mod, own, agreed, got, want)
	}
}

func wantMembers(t *testing.T, c api.Conf, own, agreed, want string) {
	t.Helper()
	if got := number.Members(c, own, agreed); got != want {
		t.Errorf("Members(N %d, %q, %q): %q, not %q", c.N, own, agreed, got, want)
	}
}

func wantApart(t *testing.T, c api.Conf, from, to, want int) {
	t.Helper()
	if got := number.Apart(c, from, to); got != want {
		t.Errorf("Apart(Mod %d, %d, %d): %d, not %d", c.Mod, from, to, got, want)
	}
}

func wantRow(t *testing.T, c api.Conf, first, n int, want []int) {
	t.Helper()
	if got := number.Row(c, first, n); !slices.Equal(got, want) {
		t.Errorf("Row(Mod %d, %d, %d): %v, not %v", c.Mod, first, n, got, want)
	}
}

// P20.1, reckoned by hand: behind what was agreed, behind the own one if nothing was; behind Mod - 1 is 0.
func TestNextExamples(t *testing.T) {
	for _, x := range []struct {
		mod, own int
		agreed   string
		want     int
	}{
		{10, 9, "", 0},
		{10, 0, "", 1},
		{10, 8, "", 9},
		{10, 10, "", 1},
		{10, 19, "", 0},
		{10, -1, "", 0},
		{10, -2, "", 9},
		{2, 0, "", 1},
		{2, 1, "", 0},
		{250, 248, "", 249},
		{250, 249, "", 0},
		{10, math.MaxInt, "", 8}, // it ends with 7
		{10, math.MinInt, "", 3}, // it is below 0, and ends with 8
		{2, math.MaxInt, "", 0},
		{10, 3, "0", 1},
		{10, 3, "00000000", 1},
		{10, 3, "1", 2},
		{10, 3, "1010", 6},
		{10, 3, "100100000000", 0}, // 9
		{10, 3, "11111111", 6},     // 255
		{250, 3, "11111111", 6},
		{250, 3, "10011111", 0}, // 249
		{250, 3, "000000001111", 1},
		{10, 3, "x", 1},
		{10, 3, "\x00", 1},
		{10, 3, "x1é", 3},
		{10, math.MinInt, "1", 2},
	} {
		wantNext(t, sized(4, x.mod), x.own, x.agreed, x.want)
	}
}

// P20.1: behind each number, whatever it counts as.
func TestNextOfEach(t *testing.T) {
	for _, mod := range mods() {
		c := sized(4, mod)
		for _, own := range numbers(mod) {
			wantNext(t, c, own, "", modOf(own, 1, mod))
			wantNext(t, c, own, "0100", modOf(2, 1, mod))
		}
		for n := range 256 {
			wantNext(t, c, 1, vec.Bits(n, 12), modOf(n, 1, mod))
			wantNext(t, c, n, vec.Bits(n, 8), modOf(n, 1, mod))
		}
	}
}

// P20.1: behind vec.Number of whatever was agreed, while there is any.
func TestNextOfAgreed(t *testing.T) {
	source := rand.New(rand.NewSource(201))
	for range 5000 {
		c, own, agreed := sized(4, mods()[source.Intn(len(mods()))]), source.Intn(300)-20, mixed(source, 1+source.Intn(15))
		wantNext(t, c, own, agreed, modOf(vec.Number(agreed), 1, c.Mod))
	}
}

// P20.1, reckoned by hand.
func TestMembersExamples(t *testing.T) {
	for _, x := range []struct {
		n                 int
		own, agreed, want string
	}{
		{4, "1101", "", "1101"},
		{4, "", "", "0000"},
		{4, "1", "", "1000"},
		{4, "11111", "", "1111"},
		{4, "00001", "", "0000"},
		{4, "x12\x001", "", "0100"},
		{4, "é11", "", "0011"},
		{4, "1111", "101000000110", "0110"},
		{4, "0000", "111111111111", "1111"},
		{4, "1111", "1111111100001", "0000"},
		{4, "1111", "0", "0000"},
		{4, "1111", "1111111", "0000"},
		{4, "1111", "11111111", "0000"},
		{4, "1111", "111111111", "1000"},
		{4, "1111", "00000000x1?1", "0101"},
		{4, "1111", "00000000\xff2é1", "0000"},
		{4, "1111", "é0000000101", "0101"}, // places are counted by bytes
		{13, "1111111111111", "000000000000000000001", "0000000000001"},
		{13, "1111111111111", "", "1111111111111"},
		{13, strings.Repeat("1", 5000), "", "1111111111111"},
		{13, "", strings.Repeat("1", 5000), "1111111111111"},
	} {
		wantMembers(t, sized(x.n, 10), x.own, x.agreed, x.want)
	}
}

// membersOf is Members once more, straight from the chapter's words.
func membersOf(n int, own, agreed string) string {
	text, from := agreed, 8
	if agreed == "" {
		text, from = own, 0
	}
	out := ""
	for node := range n {
		if from+node < len(text) && text[from+node] == '1' {
			out += "1"
		} else {
			out += "0"
		}
	}
	return out
}

// P20.1: of any texts, of each N.
func TestMembersAsTold(t *testing.T) {
	source := rand.New(rand.NewSource(202))
	for n := api.MinNodes; n <= api.MaxNodes; n++ {
		for range 400 {
			own, agreed := mixed(source, source.Intn(n+5)), mixed(source, source.Intn(2)*source.Intn(n+14))
			wantMembers(t, sized(n, 10), own, agreed, membersOf(n, own, agreed))
		}
	}
	for b := range 256 {
		want, same := "0000", string([]byte{byte(b)})
		if b == '1' {
			want = "1111"
		}
		wantMembers(t, sized(4, 10), strings.Repeat(same, 4), "", want)
		wantMembers(t, sized(4, 10), "", strings.Repeat(same, 12), want)
	}
}

// P20.2, reckoned by hand.
func TestApartExamples(t *testing.T) {
	for _, x := range []struct {
		mod, from, to, want int
	}{
		{10, 8, 1, 3},
		{10, 1, 8, 7},
		{10, 4, 4, 0},
		{10, 4, 14, 0},
		{10, 4, 15, 1},
		{10, 9, 0, 1},
		{10, 0, 9, 9},
		{10, 0, -1, 9},
		{10, -1, 0, 1},
		{10, 13, -8, 9},
		{2, 0, 1, 1},
		{2, 1, 0, 1},
		{250, 249, 248, 249},
		{10, math.MaxInt, math.MinInt, 5}, // from 7 to 2
		{10, math.MinInt, math.MaxInt, 5},
		{7, math.MinInt, math.MinInt, 0},
		{250, math.MaxInt, math.MaxInt - 1, 249},
		{250, -1, math.MaxInt, 58}, // from 249 to 57
	} {
		wantApart(t, sized(4, x.mod), x.from, x.to, x.want)
	}
}

// P20.2: as many steps as there are behind one number to another one.
func TestApartAsSteps(t *testing.T) {
	for _, mod := range mods() {
		c := sized(4, mod)
		for from := range mod {
			at := from
			for steps := range mod {
				wantApart(t, c, from, at, steps)
				at = number.Next(c, at, "")
			}
		}
	}
}

// P20.2: whatever numbers are handed in.
func TestApartOfAny(t *testing.T) {
	for _, mod := range []int{2, 7, 10, 250} {
		c := sized(4, mod)
		for _, from := range numbers(mod) {
			for _, to := range numbers(mod) {
				wantApart(t, c, from, to, modOf(modOf(to, 0, mod), -modOf(from, 0, mod), mod))
			}
		}
	}
}

// P20.2, reckoned by hand: n numbers, beginning with first; none, if n is below 1.
func TestRowExamples(t *testing.T) {
	for _, x := range []struct {
		mod, first, n int
		want          []int
	}{
		{10, 0, 1, []int{0}},
		{10, 8, 4, []int{8, 9, 0, 1}},
		{10, 18, 4, []int{8, 9, 0, 1}},
		{10, -1, 3, []int{9, 0, 1}},
		{2, 1, 5, []int{1, 0, 1, 0, 1}},
		{250, 249, 2, []int{249, 0}},
		{10, 3, 0, nil},
		{10, 3, -1, nil},
		{10, 3, math.MinInt, nil},
		{10, math.MaxInt, 4, []int{7, 8, 9, 0}},
		{10, math.MinInt, 4, []int{2, 3, 4, 5}},
	} {
		wantRow(t, sized(4, x.mod), x.first, x.n, x.want)
	}
}

// P20.2: each behind the one ahead of it, at most MaxTicks of them.
func TestRowAsTold(t *testing.T) {
	for _, mod := range mods() {
		c := sized(4, mod)
		for _, first := range []int{0, 1, mod - 1, mod, -1, math.MaxInt, math.MinInt} {
			for _, n := range []int{1, 2, mod - 1, mod, mod + 1, 1999, 2000, 2001, 3000, 1 << 40, math.MaxInt} {
				var want []int
				for i := range min(n, api.MaxTicks) {
					want = append(want, modOf(first, i, mod))
				}
				wantRow(t, c, first, n, want)
			}
		}
	}
}

// P20.3: behind Mod steps there is the same number again, and not sooner; to the next one it is one step. Of each Mod.
func TestComesAgain(t *testing.T) {
	for mod := 2; mod <= api.MaxMod; mod++ {
		c := sized(4, mod)
		for _, first := range []int{0, 1, mod / 2, mod - 1} {
			at := first
			for steps := 1; steps <= mod; steps++ {
				next := number.Next(c, at, "")
				if next < 0 || next >= mod || (next == first) != (steps == mod) {
					t.Fatalf("Mod %d: %d steps behind %d is %d", mod, steps, first, next)
				}
				wantApart(t, c, at, next, 1)
				at = next
			}
			row := number.Row(c, first, mod+1)
			if len(row) != mod+1 || row[mod] != first || slices.Contains(row[1:mod], first) {
				t.Fatalf("Mod %d: from %d on %v", mod, first, row)
			}
		}
	}
}

// P20.1, P20.2: of what is not plain all are empty, or 0.
func TestNotPlain(t *testing.T) {
	for _, c := range samples.Wrong() {
		for _, n := range []int{0, 1, 8, -1, math.MaxInt, math.MinInt} {
			wantNext(t, c, n, "", 0)
			wantNext(t, c, n, "1", 0)
			wantApart(t, c, n, 3, 0)
			wantApart(t, c, 3, n, 0)
			wantRow(t, c, n, 3, nil)
			wantRow(t, c, 3, n, nil)
		}
		wantMembers(t, c, "1111", "", "")
		wantMembers(t, c, "1111", "111111111111", "")
	}
}

// Rules 4 to 6: a row is new each time, and the configuration's table is not changed.
func TestRowsAreNew(t *testing.T) {
	c := sized(4, 10)
	first := number.Row(c, 8, 4)
	clear(first[:cap(first)])
	wantRow(t, c, 8, 4, []int{8, 9, 0, 1})
	if !slices.Equal(c.Table, []int{0, 1, 2, 3}) {
		t.Error("changed:", c.Table)
	}
}
