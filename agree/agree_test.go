package agree_test

import (
	"math"
	"math/rand"
	"slices"
	"strings"
	"testing"

	"bellwether/agree"
	"bellwether/api"
	"bellwether/king"
	"bellwether/samples"
	"bellwether/vec"
)

// agesOf are ages within an instance, and ages that none has.
func agesOf(c api.Conf) []int {
	out := []int{-1, -2, -9, math.MinInt, math.MinInt + 1, math.MaxInt, math.MaxInt - 1, 1 << 32}
	for age := range samples.Length(c) + 3 {
		out = append(out, age)
	}
	return out
}

// mixed is a text of n bytes, codes most of them.
func mixed(source *rand.Rand, n int) string {
	return samples.Text(source.Intn, n, "0011222345")
}

// mixedPackets are so many packets, most of which tell exchange ex-1; half of the time nearly all are the same.
func mixedPackets(source *rand.Rand, n, ex, width int) []api.Packet {
	out := make([]api.Packet, n)
	same := source.Intn(2) == 0
	for i := range out {
		out[i] = api.Packet{Votes: mixed(source, 6), Ex: ex, Vec: mixed(source, source.Intn(width+2)), Slot: 1, Text: "x"}
		if source.Intn(6) == 0 {
			out[i].Ex = []int{0, ex + 1, ex - 1, -ex, math.MaxInt, math.MinInt}[source.Intn(6)]
		}
		if same && i > 0 && i < n-source.Intn(3) {
			out[i] = out[0]
		}
	}
	return out
}

func wantBegin(t *testing.T, c api.Conf, number int, seen, want string) {
	t.Helper()
	if got := agree.Begin(c, number, seen); got != want {
		t.Errorf("Begin(N %d, %d, %q): %q, not %q", c.N, number, seen, got, want)
	}
}

func wantTell(t *testing.T, c api.Conf, age int, codes string, ex int, told string) {
	t.Helper()
	if gotEx, got := agree.Tell(c, age, codes); gotEx != ex || got != told {
		t.Errorf("Tell(F %d, D %d, %d, %q): %d, %q, not %d, %q", c.F, c.D, age, codes, gotEx, got, ex, told)
	}
}

// after is what Step answers.
type after struct {
	age           int
	codes, agreed string
}

func wantStep(t *testing.T, c api.Conf, age int, codes, agreed string, packets []api.Packet, want after) {
	t.Helper()
	var got after
	got.age, got.codes, got.agreed = agree.Step(c, age, codes, agreed, packets...)
	if got != want {
		t.Errorf("Step(N %d, F %d, D %d; %d, %q, %q, %v): %v, not %v", c.N, c.F, c.D, age, codes, agreed, packets, got, want)
	}
}

// P19.1, reckoned by hand: the number's eight bits, the lowest one first, and a digit for each node.
func TestBeginExamples(t *testing.T) {
	for _, x := range []struct {
		n, number  int
		seen, want string
	}{
		{4, 5, "1011", "101000001011"},
		{4, 0, "", "000000000000"},
		{4, 1, "1", "100000001000"},
		{4, 128, "0001", "000000010001"},
		{4, 255, "1111", "111111111111"},
		{4, 256, "1111", "000000001111"},
		{4, 259, "0", "110000000000"},
		{4, -1, "0110", "000000000110"},
		{4, math.MinInt, "1", "000000001000"},
		{4, math.MaxInt, "", "111111110000"},
		{4, 2, "1111111111111111", "010000001111"},
		{4, 2, "00001111", "010000000000"},
		{4, 2, "2x\x001", "010000000001"},
		{4, 2, "é11", "010000000011"},
		{4, 2, "3451", "010000000001"},
		{7, 249, "1010101", "100111111010101"},
		{13, 249, "1", "10011111" + "1000000000000"},
		{13, 249, strings.Repeat("1", 5000), "10011111" + "1111111111111"},
	} {
		wantBegin(t, samples.Sized(x.n, 1, 1), x.number, x.seen, x.want)
	}
}

// P19.1: each byte of seen that is not 1 is 0.
func TestBeginEachByte(t *testing.T) {
	for b := range 256 {
		want := "00000000" + "0001"
		if b == '1' {
			want = "00000000" + "0101"
		}
		wantBegin(t, samples.Sized(4, 1, 1), 0, string([]byte{0, byte(b), 255, '1'}), want)
	}
}

// P19.1: as vec has it, of any number and of any text; N digits of it, of each N.
func TestBeginAsTold(t *testing.T) {
	source := rand.New(rand.NewSource(191))
	for n := api.MinNodes; n <= api.MaxNodes; n++ {
		for range 300 {
			number, seen := source.Int()>>source.Intn(63)-source.Intn(3), mixed(source, source.Intn(n+5))
			bits := ""
			for node := range n {
				if node < len(seen) && seen[node] == '1' {
					bits += "1"
				} else {
					bits += "0"
				}
			}
			wantBegin(t, samples.Sized(n, 1, 1), number, seen, vec.Of(vec.Bits(number, 8)+bits))
		}
	}
}

// P19.1, reckoned by hand: an exchange's number and one more, while there are codes.
func TestTellExamples(t *testing.T) {
	c := samples.Sized(4, 1, 2)
	for _, x := range []struct {
		age   int
		codes string
		ex    int
		want  string
	}{
		{0, "0101", 1, "0101"},
		{1, "0101", 0, ""},
		{2, "012345", 2, "012012"},
		{3, "012345", 0, ""},
		{4, "x6?", 3, "222"},
		{10, "34", 6, "01"},
		{11, "34", 0, ""},
		{12, "34", 0, ""},
		{14, "34", 0, ""},
		{-2, "34", 0, ""},
		{math.MinInt, "34", 0, ""},
		{math.MaxInt, "34", 0, ""},
		{0, "", 0, ""},
		{10, "", 0, ""},
		{0, strings.Repeat("4", 5000), 1, strings.Repeat("1", 5000)},
	} {
		wantTell(t, c, x.age, x.codes, x.ex, x.want)
	}
}

// P19.1: each exchange at its age, and nothing at other ones.
func TestTellAsTold(t *testing.T) {
	source := rand.New(rand.NewSource(192))
	for _, c := range samples.Confs() {
		for _, age := range agesOf(c) {
			codes := mixed(source, 1+source.Intn(30))
			if age >= 0 && age%c.D == 0 && age < samples.Length(c) {
				wantTell(t, c, age, codes, age/c.D+1, vec.Values(codes))
			} else {
				wantTell(t, c, age, codes, 0, "")
			}
			wantTell(t, c, age, "", 0, "")
		}
	}
}

func told(ex int, text string) api.Packet {
	return api.Packet{Ex: ex, Vec: text}
}

// P19.2, reckoned by hand.
func TestStepExamples(t *testing.T) {
	c := samples.Sized(4, 1, 1)
	for _, x := range []struct {
		age           int
		codes, agreed string
		packets       []api.Packet
		want          after
	}{
		// exchange 0: three of four are a quorum
		{0, "000", "was", []api.Packet{told(1, "110"), told(1, "110"), told(1, "10"), told(1, "0")}, after{1, "122", "was"}},
		{0, "000", "", []api.Packet{told(1, "111"), told(2, "111"), told(1, "111"), told(0, "111")}, after{1, "222", ""}},
		{0, "0", "", []api.Packet{told(1, "1"), told(1, "1"), told(1, "1"), told(1, "1"), told(2, "0")}, after{1, "1", ""}},
		{0, "0", "", nil, after{1, "2", ""}},
		// exchange 1
		{1, "222", "a", []api.Packet{told(2, "122"), told(2, "122"), told(2, "121"), told(2, "021")}, after{2, "451", "a"}},
		// exchange 2: the king is node 0
		{2, "22", "", []api.Packet{told(3, "01"), told(3, "10"), told(3, "10")}, after{3, "01", ""}},
		{2, "22", "", []api.Packet{told(2, "11"), told(3, "11"), told(3, "11")}, after{3, "00", ""}},
		{2, "20", "", nil, after{3, "00", ""}},
		// exchange 5: the king is node 1, and what there is then is agreed on
		{5, "222225", "was", []api.Packet{told(6, "000000"), told(6, "1012")}, after{6, "", "101100"}},
		{5, "2345", "was", []api.Packet{told(6, "1111")}, after{6, "", "0010"}},
		{5, "2345", "was", []api.Packet{told(6, "1111"), told(3, "1111")}, after{6, "", "0010"}},
		{5, "2345", "was", nil, after{6, "", "0010"}},
		// done already: age stays
		{6, "2345", "was", []api.Packet{told(6, ""), told(6, "1111")}, after{6, "", "1011"}},
		{99, "44", "was", nil, after{6, "", "11"}},
		{math.MaxInt, "33", "was", nil, after{6, "", "00"}},
		// ahead of its beginning
		{-1, "345x", "was", []api.Packet{told(1, "1111"), told(0, "1111"), told(-1, "0000")}, after{0, "345x", "was"}},
		{math.MinInt, "345", "was", nil, after{0, "345", "was"}},
		// no codes
		{3, "", "01", []api.Packet{told(4, "1111")}, after{3, "", "01"}},
		{6, "", "01", nil, after{6, "", "01"}},
		{-7, "", "x", nil, after{-7, "", "x"}},
		{math.MaxInt, "", "", nil, after{math.MaxInt, "", ""}},
	} {
		wantStep(t, c, x.age, x.codes, x.agreed, x.packets, x.want)
	}
}

// P19.2: between two exchanges a tick goes by, and nothing is heard.
func TestStepBetweenExchanges(t *testing.T) {
	c := samples.Sized(4, 1, 3)
	for age := -1; age < 17; age++ {
		if (age+1)%3 == 0 && age > 0 {
			continue
		}
		for ex := range 9 {
			packets := slices.Repeat([]api.Packet{told(ex, "1111")}, 4)
			wantStep(t, c, age, "01x5", "was", packets, after{age + 1, "01x5", "was"})
		}
	}
	wantStep(t, c, 17, "0444", "was", slices.Repeat([]api.Packet{told(6, "1222")}, 4), after{18, "", "1111"})
}

// stepped is Step once more, straight from the chapter's words.
func stepped(c api.Conf, age int, codes, agreed string, packets []api.Packet) after {
	if codes == "" {
		return after{age, codes, agreed}
	}
	length := samples.Length(c)
	switch {
	case age < 0:
		age = 0
	case age >= length:
		age = length
	default:
		age++
	}
	if age > 0 && age%c.D == 0 {
		x := age/c.D - 1
		var votes []string
		for _, p := range packets {
			if p.Ex == x+1 {
				votes = append(votes, p.Vec)
			} else {
				votes = append(votes, "")
			}
		}
		kings := ""
		if x/3 < len(votes) {
			kings = votes[x/3]
		}
		codes = vec.Step(c, x, codes, kings, votes...)
	}
	if age == length {
		return after{age, "", vec.Values(codes)}
	}
	return after{age, codes, agreed}
}

// P19.2: at all ages, with codes of any bytes and of any lengths, and with more packets than nodes and fewer.
func TestStepAsTold(t *testing.T) {
	source := rand.New(rand.NewSource(193))
	seen := map[rune]int{}
	for _, c := range samples.Confs() {
		for _, age := range agesOf(c) {
			for range 12 {
				width := source.Intn(25)
				codes, agreed := mixed(source, width), mixed(source, source.Intn(3))
				packets := mixedPackets(source, source.Intn(c.N+4), max(0, min(age, samples.Length(c)-1))/c.D+1, width)
				want := stepped(c, age, codes, agreed, packets)
				wantStep(t, c, age, codes, agreed, packets, want)
				for _, digit := range want.codes + want.agreed {
					seen[digit]++
				}
			}
		}
	}
	for _, digit := range "012345" {
		if seen[digit] < 300 {
			t.Errorf("hardly a code %c: %d", digit, seen[digit])
		}
	}
}

// P19.2: of a packet its exchange and its Vec alone count.
func TestStepOfOtherParts(t *testing.T) {
	c := samples.Sized(4, 1, 1)
	bare := slices.Repeat([]api.Packet{told(1, "1101")}, 4)
	full := make([]api.Packet, 4)
	for i := range full {
		full[i] = api.Packet{Votes: "000000", Ex: 1, Vec: "1101", Slot: i, Cycle: -i, Text: strings.Repeat("0", i)}
	}
	wantStep(t, c, 0, "0000", "", bare, after{1, "1101", ""})
	wantStep(t, c, 0, "0000", "", full, after{1, "1101", ""})
}

// P19.1, P19.2: of what is not plain all are empty, or 0.
func TestNotPlain(t *testing.T) {
	ones := slices.Repeat([]api.Packet{told(1, "1111")}, 13)
	for _, c := range samples.Wrong() {
		wantBegin(t, c, 5, "1011", "")
		for _, age := range []int{0, 1, 5, 6, -1, math.MaxInt, math.MinInt} {
			wantTell(t, c, age, "0101", 0, "")
			wantStep(t, c, age, "0101", "11", ones, after{})
			wantStep(t, c, age, "", "11", nil, after{})
		}
	}
}

// cluster is nodes that begin together; of a faulty one lie is what it tells each other one at an age.
type cluster struct {
	api.Conf
	faulty []int
	lie    func(age, from, to int) api.Packet
	codes  []string
	told   [][]api.Packet
}

// begun is a cluster at the pulse; to whom D ticks have not gone by anything may come.
func begun(c api.Conf, begun []string, faulty []int) *cluster {
	k := &cluster{Conf: c, faulty: faulty, codes: slices.Clone(begun)}
	k.tell(0)
	return k
}

func (k *cluster) tell(age int) {
	row := make([]api.Packet, k.N)
	for node := range row {
		row[node].Ex, row[node].Vec = agree.Tell(k.Conf, age, k.codes[node])
	}
	k.told = append(k.told, row)
}

// heard is what all nodes told one D ticks ago.
func (k *cluster) heard(age, to int) []api.Packet {
	then := age - k.D
	out := make([]api.Packet, k.N)
	if then >= 0 {
		copy(out, k.told[then])
	}
	for from := range out {
		if then < 0 || slices.Contains(k.faulty, from) {
			out[from] = k.lie(then, from, to)
		}
	}
	return out
}

// run is what each node has agreed on Length ticks later; none may have done so sooner.
func (k *cluster) run(t *testing.T) []string {
	t.Helper()
	agreed := make([]string, k.N)
	for tick := range samples.Length(k.Conf) {
		for node := range k.codes {
			if agreed[node] != "" {
				t.Fatalf("node %d agreed at age %d", node, tick)
			}
			var age int
			age, k.codes[node], agreed[node] = agree.Step(k.Conf, tick, k.codes[node], "", k.heard(tick+1, node)...)
			if age != tick+1 {
				t.Fatalf("node %d: age %d, not %d", node, age, tick+1)
			}
		}
		k.tell(tick + 1)
	}
	return agreed
}

// lies are ways to lie: by chance, one thing to some and another to others, against an honest one, as others tell, late, and nothing.
func (k *cluster) lies(source *rand.Rand) []func(age, from, to int) api.Packet {
	width := 8 + k.N
	ex := func(age int) int { return age/k.D + 1 }
	return []func(age, from, to int) api.Packet{
		func(age, from, to int) api.Packet {
			return told(ex(age)+source.Intn(12)/11, mixed(source, source.Intn(width+2)))
		},
		func(age, from, to int) api.Packet { return told(ex(age), strings.Repeat(string("01"[to%2]), width)) },
		func(age, from, to int) api.Packet {
			return told(ex(age), strings.Repeat(string("012"[source.Intn(3)]), width))
		},
		func(age, from, to int) api.Packet {
			other := k.told[max(age, 0)][k.N-1].Vec
			return told(ex(age), strings.NewReplacer("0", "1", "1", "0").Replace(other))
		},
		func(age, from, to int) api.Packet { return k.told[max(age, 0)][(from+to)%k.N] },
		func(age, from, to int) api.Packet { return told(ex(age)-1, strings.Repeat("1", width)) },
		func(age, from, to int) api.Packet { return api.Packet{} },
	}
}

// wantAgreed holds what honest nodes agreed on against each other, and against what all of them began with.
func wantAgreed(t *testing.T, k *cluster, begun, agreed []string) {
	t.Helper()
	first := -1
	for node := range agreed {
		if slices.Contains(k.faulty, node) {
			continue
		}
		if first < 0 {
			first = node
		}
		if len(agreed[node]) != 8+k.N || strings.Trim(agreed[node], "01") != "" || agreed[node] != agreed[first] {
			t.Fatalf("N %d, F %d, D %d, faulty %v: agreed %q", k.N, k.F, k.D, k.faulty, agreed)
		}
	}
	for place := range 8 + k.N {
		same := true
		for node := range begun {
			same = same && (slices.Contains(k.faulty, node) || begun[node][place] == begun[first][place])
		}
		if same && agreed[first][place] != begun[first][place] {
			t.Fatalf("N %d, F %d, D %d, faulty %v: all began with %c at %d, agreed %q", k.N, k.F, k.D, k.faulty, begun[first][place], place, agreed[first])
		}
	}
}

// beginnings are codes that nodes begin with: most bits are the same, or few.
func beginnings(c api.Conf, source *rand.Rand) []string {
	out := make([]string, c.N)
	number, way := source.Intn(250), source.Intn(3)
	for node := range out {
		switch way {
		case 0:
			number = source.Intn(250)
		case 1:
			number ^= source.Intn(2) << source.Intn(8)
		}
		out[node] = agree.Begin(c, number, vec.Bits(source.Int()|source.Int()|source.Int(), 13))
	}
	return out
}

// P19.3: whatever faulty ones tell, the first kings among them.
func TestClusterAgrees(t *testing.T) {
	source := rand.New(rand.NewSource(194))
	for _, c := range []api.Conf{samples.Sized(4, 0, 2), samples.Sized(4, 1, 1), samples.Sized(4, 1, 3), samples.Sized(5, 1, 2), samples.Sized(7, 2, 1), samples.Sized(7, 2, 4), samples.Sized(10, 3, 1), samples.Sized(13, 4, 2)} {
		kings := []int{0, 1, 2, 3}
		for _, faulty := range [][]int{nil, kings[:c.F], source.Perm(c.N)[:c.F]} {
			for way := range 8 {
				for range 8 {
					begins := beginnings(c, source)
					k := begun(c, begins, faulty)
					ways := k.lies(source)
					k.lie = func(age, from, to int) api.Packet { return ways[source.Intn(len(ways))](age, from, to) }
					if way < len(ways) {
						k.lie = ways[way]
					}
					wantAgreed(t, k, begins, k.run(t))
				}
			}
		}
	}
}

// P19.3: with one that lies otherwise to each other one in each exchange, each bit ends as king.Play says of it.
func TestClusterAsPlayed(t *testing.T) {
	source := rand.New(rand.NewSource(195))
	for _, c := range []api.Conf{samples.Sized(4, 1, 1), samples.Sized(4, 1, 2), samples.Sized(7, 2, 3)} {
		for range 40 {
			begins, faulty := beginnings(c, source), source.Perm(c.N)[:c.F]
			k := begun(c, begins, faulty)
			lies := make([][]int, 8+c.N) // by bit, and then by exchange, who tells and whom
			for place := range lies {
				for range 3 * (c.F + 1) * c.N * c.N {
					lies[place] = append(lies[place], source.Intn(3))
				}
			}
			k.lie = func(age, from, to int) api.Packet {
				x, text := max(age, 0)/c.D, make([]byte, len(lies))
				for place := range text {
					text[place] = byte('0' + lies[place][(x*c.N+from)*c.N+to])
				}
				return told(x+1, string(text))
			}
			agreed := k.run(t)
			for place := range lies {
				bits := make([]int, c.N)
				for node := range bits {
					bits[node] = int(begins[node][place] - '0')
				}
				for node, want := range king.Play(c, bits, faulty, lies[place]) {
					if want >= 0 && agreed[node][place] != byte('0'+want) {
						t.Fatalf("N %d, D %d: node %d agreed %q, at %d not %d", c.N, c.D, node, agreed[node], place, want)
					}
				}
			}
		}
	}
}

// P19.3 is promised up to F alone: with one more that lies honest nodes may be apart, so that the test above would see it.
func TestOneMoreFaulty(t *testing.T) {
	source := rand.New(rand.NewSource(196))
	c := samples.Sized(4, 1, 1)
	apart := 0
	for range 200 {
		k := begun(c, beginnings(c, source), []int{0, 1})
		k.lie = k.lies(source)[1]
		agreed := k.run(t)
		if agreed[2] != agreed[3] {
			apart++
		}
	}
	if apart == 0 {
		t.Error("never apart")
	}
}

// Rules 4 to 6: no list that is handed in is changed or kept, and the same answer comes again.
func TestListsAreNotChanged(t *testing.T) {
	c := samples.Sized(4, 1, 1)
	whole := []api.Packet{told(1, "110"), told(1, "1x"), told(2, "111"), told(1, "111"), told(9, "222")}
	packets := slices.Clone(whole)
	for range 3 {
		wantStep(t, c, 0, "000", "was", packets[:4], after{1, "122", "was"})
		wantTell(t, c, 1, "345", 2, "012")
		wantBegin(t, c, 5, "1011", "101000001011")
	}
	if !slices.Equal(packets, whole) || !slices.Equal(c.Table, []int{0, 1, 2, 3}) {
		t.Error("changed:", packets, c.Table)
	}
	clear(packets)
	wantStep(t, c, 0, "000", "was", whole[:4], after{1, "122", "was"})
}
