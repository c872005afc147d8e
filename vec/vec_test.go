package vec_test

import (
	"math"
	"math/rand"
	"slices"
	"strings"
	"testing"

	"bellwether/api"
	"bellwether/king"
	"bellwether/samples"
	"bellwether/vec"
)

// sized is a plain configuration of n nodes, f of which may be faulty.
func sized(n, f int) api.Conf {
	c := api.Conf{N: n, F: f, D: 1, Period: api.MaxPeriod, Rate: 64, Offset: 64, Slot: 190, Mod: 10, Fresh: 3}
	for slot := range n {
		c.Table = append(c.Table, slot)
	}
	return c
}

// confs are plain configurations, and some that are not.
func confs() []api.Conf {
	out := []api.Conf{sized(4, 0), sized(4, 1), sized(7, 2), sized(10, 3), sized(13, 4)}
	short := sized(4, 1)
	short.Table = short.Table[1:]
	return append(out, api.Conf{}, api.Conf{N: math.MaxInt, F: math.MaxInt}, api.Conf{N: math.MinInt, F: math.MinInt}, sized(4, 2), short)
}

// exchanges are numbers of exchanges, of which there need be none such.
func exchanges() []int {
	return []int{0, 1, 2, 3, 4, 5, 12, 13, 14, -1, -2, -3, 1 << 32, math.MaxInt, math.MaxInt - 1, math.MaxInt - 2, math.MinInt, math.MinInt + 1, math.MinInt + 2}
}

// allBytes is a text of each byte once.
func allBytes() string {
	out := make([]byte, 256)
	for i := range out {
		out[i] = byte(i)
	}
	return string(out)
}

// mixed is a text of n bytes, digits most of them.
func mixed(source *rand.Rand, n int) string {
	return samples.Text(source.Intn, n, "0011222345")
}

func mixedVotes(source *rand.Rand, n, most int) []string {
	out := make([]string, n)
	for i := range out {
		out[i] = mixed(source, source.Intn(most+1))
	}
	return out
}

func wantStep(t *testing.T, c api.Conf, x int, codes, told string, votes []string, want string) {
	t.Helper()
	if got := vec.Step(c, x, codes, told, votes...); got != want {
		t.Errorf("Step(%d nodes, %d faulty; %d, %q, %q, %q): %q, not %q", c.N, c.F, x, codes, told, votes, got, want)
	}
}

// P16.1: any byte but 1 counts as 0, each byte of a longer rune too.
func TestOf(t *testing.T) {
	for bits, want := range map[string]string{
		"": "", "1": "1", "0": "0", "10": "10", "0110": "0110", "10x2": "1000", "1 1": "101", "\x001\xff": "010", "é1": "001", "一1": "0001", "２1": "0001",
		"3451": "0001", strings.Repeat("1", 5000): strings.Repeat("1", 5000),
	} {
		if got := vec.Of(bits); got != want {
			t.Errorf("Of(%q): %q, not %q", bits, got, want)
		}
	}
	if got := vec.Of(allBytes()); got != strings.Repeat("0", 49)+"1"+strings.Repeat("0", 206) {
		t.Errorf("of all bytes: %q", got)
	}
}

// P16.1: the value of a code is what is left by three; of any other byte it is 2.
func TestValues(t *testing.T) {
	for codes, want := range map[string]string{
		"": "", "012345": "012012", "0123456?": "01201222", "6789": "2222", "543210": "210210", "/:": "22", "a0 1": "2021", "é4": "221", "１3": "2220",
		strings.Repeat("4", 5000): strings.Repeat("1", 5000),
	} {
		if got := vec.Values(codes); got != want {
			t.Errorf("Values(%q): %q, not %q", codes, got, want)
		}
	}
	if got := vec.Values(allBytes()); got != strings.Repeat("2", 48)+"012012"+strings.Repeat("2", 202) {
		t.Errorf("of all bytes: %q", got)
	}
}

// P16.1, reckoned by hand.
func TestStepExamples(t *testing.T) {
	c := sized(4, 1)
	for _, x := range []struct {
		x           int
		codes, told string
		votes       []string
		want        string
	}{
		{0, "000", "", []string{"110", "110", "10", "0"}, "122"},
		{0, "555", "111", []string{"101", "101", "101", "010"}, "101"},
		{0, "00", "", []string{"11", "1x", "1", ""}, "12"},
		{0, "0", "", []string{"3", "4", "4", "4"}, "2"}, // codes of strong bits are no votes
		{1, "222", "", []string{"122", "122", "121", "021"}, "451"},
		{1, "01234569x", "", nil, "012012222"},
		{1, "0000", "", []string{"1111", "1112", "10", "0"}, "4110"},
		{1, "1111", "", []string{"0", "0", "0"}, "3111"},
		{2, "4510", "12", nil, "1100"},
		{2, "333333", "012x", nil, "000000"},
		{2, "444444", "012x", nil, "111111"},
		{2, "222222", "0123x", nil, "011000"},
		{2, "555555", "0123x", nil, "011000"},
		{2, "012?99", "1x1222", []string{"000000", "000000", "000000"}, "101111"},
		{2, "2", "", nil, "0"},
		{5, "34", "10", nil, "01"},
		{-1, "01", "10", nil, "10"},
		{0, "", "1", []string{"1", "1", "1", "1"}, ""},
		{1, "", "", nil, ""},
		{2, "", "11", nil, ""},
	} {
		wantStep(t, c, x.x, x.codes, x.told, x.votes, x.want)
	}
}

// vote is what a text tells of a place, straight from the chapter's words.
func vote(text string, k int) int {
	if k < len(text) {
		return strings.IndexByte("012", text[k])
	}
	return -1
}

// stepped is Step once more, straight from the chapter's words.
func stepped(c api.Conf, x int, codes, told string, votes []string) string {
	out := ""
	for k := 0; k < len(codes); k++ {
		var list []int
		for _, text := range votes {
			list = append(list, vote(text, k))
		}
		b := king.Read(strings.IndexByte("012345", codes[k]))
		out += string("012345"[king.Code(king.Step(c, x, b, vote(told, k), list...))])
	}
	return out
}

// P16.1: texts of any bytes and of any lengths, more votes than nodes and fewer, and configurations that are not plain.
func TestStepAsTold(t *testing.T) {
	source := rand.New(rand.NewSource(16))
	seen := map[rune]int{}
	for _, c := range confs() {
		for range 1500 {
			x := exchanges()[source.Intn(len(exchanges()))]
			width := source.Intn(30)
			codes, told := mixed(source, width), mixed(source, source.Intn(width+3))
			votes := mixedVotes(source, source.Intn(min(max(c.N, 0), 13)+4), width+2)
			if source.Intn(2) == 0 && len(votes) > 0 { // nearly all tell the same
				votes = slices.Repeat(votes[:1], len(votes)+3)
				votes[source.Intn(len(votes))] = mixed(source, width)
			}
			want := stepped(c, x, codes, told, votes)
			wantStep(t, c, x, codes, told, votes, want)
			for _, digit := range want {
				seen[digit]++
			}
		}
	}
	for _, digit := range "012345" {
		if seen[digit] < 100 {
			t.Errorf("hardly a code %c: %d", digit, seen[digit])
		}
	}
}

// P16.1: each byte as a code, as the king's digit and as a vote.
func TestStepOfEachByte(t *testing.T) {
	c := sized(4, 1)
	all := allBytes()
	for x := range 3 {
		for _, code := range "012345x" {
			codes := strings.Repeat(string(code), 256)
			wantStep(t, c, x, codes, all, []string{all, all, all}, stepped(c, x, codes, all, []string{all, all, all}))
		}
		wantStep(t, c, x, all, "", nil, stepped(c, x, all, "", nil))
	}
	wantStep(t, c, 0, strings.Repeat("0", 256), "", []string{all, all, all}, strings.Repeat("2", 48)+"01"+strings.Repeat("2", 206))
	wantStep(t, c, 1, strings.Repeat("0", 256), "", []string{all, all, all}, strings.Repeat("0", 48)+"345"+strings.Repeat("0", 205))
	wantStep(t, c, 2, strings.Repeat("2", 256), all, nil, strings.Repeat("0", 49)+"11"+strings.Repeat("0", 205))
}

// P16.1: of what is not plain it is as if there were no votes.
func TestStepNotPlain(t *testing.T) {
	ones := slices.Repeat([]string{"1111111"}, 13)
	for _, c := range []api.Conf{{}, sized(4, 2), sized(14, 1), {N: math.MaxInt, F: math.MinInt}, {N: 4, F: 1}} {
		wantStep(t, c, 0, "012345x", "0", ones, "2222222")
		wantStep(t, c, 1, "012345x", "0", ones, "0120122")
		wantStep(t, c, 2, "012345x", "1111111", ones, "1110111")
	}
}

// P16.2: the lowest bit first, the first 8 alone, and any byte but 1 as 0.
func TestNumber(t *testing.T) {
	for bits, want := range map[string]int{
		"": 0, "0": 0, "1": 1, "01": 2, "101": 5, "x1": 2, "2": 0, "1111": 15, "00000001": 128, "11111111": 255, "111111111": 255, "000000001": 0,
		"0000000011111111": 0, "1000000\xff1": 1, "é1": 4, "34512": 8, strings.Repeat("1", 5000): 255,
	} {
		if got := vec.Number(bits); got != want {
			t.Errorf("Number(%q): %d, not %d", bits, got, want)
		}
	}
	for b := range 256 {
		want := 1
		if b == '1' {
			want = 3
		}
		if got := vec.Number(string([]byte{'1', byte(b)})); got != want {
			t.Errorf("of byte %d: %d", b, got)
		}
	}
}

// wideBits is n, which is not below 0, as bits, straight from the chapter's words.
func wideBits(n, width int) string {
	out := ""
	for range width {
		out += string("01"[n%2])
		n /= 2
	}
	return out
}

// P16.2: the lowest bit first; so many as width, which counts as from 0 to 64; a number below 0 as 0.
func TestBits(t *testing.T) {
	for _, x := range []struct {
		n, width int
		want     string
	}{
		{5, 4, "1010"}, {5, 1, "1"}, {5, 2, "10"}, {5, 0, ""}, {5, -1, ""}, {5, math.MinInt, ""}, {0, 3, "000"}, {-1, 3, "000"}, {math.MinInt, 3, "000"},
		{-5, 64, strings.Repeat("0", 64)}, {math.MinInt, 64, strings.Repeat("0", 64)}, {300, 8, "00110100"}, {255, 8, "11111111"}, {256, 8, "00000000"},
		{1, 64, "1" + strings.Repeat("0", 63)}, {1, 65, "1" + strings.Repeat("0", 63)}, {1, math.MaxInt, "1" + strings.Repeat("0", 63)},
		{math.MaxInt, 62, strings.Repeat("1", 62)}, {math.MaxInt, 63, strings.Repeat("1", 63)}, {math.MaxInt, 64, strings.Repeat("1", 63) + "0"}, {math.MaxInt, 70, strings.Repeat("1", 63) + "0"},
	} {
		if got := vec.Bits(x.n, x.width); got != x.want {
			t.Errorf("Bits(%d, %d): %q, not %q", x.n, x.width, got, x.want)
		}
	}
	source := rand.New(rand.NewSource(162))
	for range 3000 {
		n, width := source.Int()>>source.Intn(63), source.Intn(90)-10
		if got := vec.Bits(n, width); got != wideBits(n, min(max(width, 0), 64)) {
			t.Errorf("Bits(%d, %d): %q", n, width, got)
		}
	}
}

// P16.3: each bit goes its own way: what stands at a place, in any of the texts, changes what is answered there alone.
func TestEachBitItsOwnWay(t *testing.T) {
	source := rand.New(rand.NewSource(163))
	for _, c := range confs() {
		for range 300 {
			x, width := source.Intn(15), 1+source.Intn(12)
			codes, told := mixed(source, width), mixed(source, width)
			votes := mixedVotes(source, 1+source.Intn(13), width)
			whole := vec.Step(c, x, codes, told, votes...)
			for k := range width {
				alone := make([]string, len(votes))
				for i, text := range votes {
					alone[i] = text[min(k, len(text)):min(k+1, len(text))]
				}
				wantStep(t, c, x, codes[k:k+1], told[k:k+1], alone, whole[k:k+1])
			}
			k, put := source.Intn(width), mixed(source, 1)
			codes, told = codes[:k]+put+codes[k+1:], told[:k]+put+told[k+1:]
			if k < len(votes[0]) {
				votes[0] = votes[0][:k] + put + votes[0][k+1:]
			}
			other := vec.Step(c, x, codes, told, votes...)
			if other[:k] != whole[:k] || other[k+1:] != whole[k+1:] {
				t.Errorf("place %d changes others: %q, %q", k, whole, other)
			}
		}
	}
}

// P16.3: Values of Of are the bits.
func TestValuesOfOf(t *testing.T) {
	for n := range 1 << 10 {
		bits := vec.Bits(n, 10)
		if got := vec.Values(vec.Of(bits)); got != bits {
			t.Errorf("of %q: %q", bits, got)
		}
	}
}

// P16.3: Number of Bits is the number, from 0 to 255, if width is 8 or more.
func TestNumberOfBits(t *testing.T) {
	for n := range 256 {
		for _, width := range []int{8, 9, 12, 21, 63, 64, 65, 1000, math.MaxInt} {
			if got := vec.Number(vec.Bits(n, width)); got != n {
				t.Errorf("of %d, %d: %d", n, width, got)
			}
		}
	}
}

// P16.3: a whole instance of many bits is as many instances of one: nodes that hold their codes end as king.Play says of each bit.
func TestWholeInstance(t *testing.T) {
	source := rand.New(rand.NewSource(164))
	for _, c := range []api.Conf{sized(4, 1), sized(7, 2), sized(13, 4)} {
		for range 20 {
			begun, codes := make([]string, c.N), make([]string, c.N)
			width := 8 + c.N
			for i := range codes {
				begun[i] = vec.Bits(source.Int(), width)
				codes[i] = vec.Of(begun[i])
			}
			for x := range 3 * (c.F + 1) {
				told := make([]string, c.N)
				for i := range told {
					told[i] = vec.Values(codes[i])
				}
				for i := range codes {
					codes[i] = vec.Step(c, x, codes[i], told[x/3], told...)
				}
			}
			for k := range width {
				bits := make([]int, c.N)
				for i := range bits {
					bits[i] = int(begun[i][k] - '0')
				}
				for i, want := range king.Play(c, bits, nil, nil) {
					if vec.Values(codes[i])[k] != byte('0'+want) {
						t.Fatalf("bit %d of node %d: %q, not %d", k, i, codes[i], want)
					}
				}
			}
		}
	}
}

// Rules 4 to 6: no list that is handed in is changed, and the same answer comes again.
func TestListsAreNotChanged(t *testing.T) {
	c := sized(4, 1)
	votes := []string{"1x0", "11", "120", "", "9"}
	first := vec.Step(c, 0, "012", "1", votes[:4]...)
	for range 3 {
		wantStep(t, c, 0, "012", "1", votes[:4], first)
	}
	if !slices.Equal(votes, []string{"1x0", "11", "120", "", "9"}) || !slices.Equal(c.Table, []int{0, 1, 2, 3}) {
		t.Error("changed:", votes, c.Table)
	}
}
