package beat_test

import (
	"math"
	"math/rand"
	"slices"
	"strings"
	"testing"

	"bellwether/api"
	"bellwether/beat"
	"bellwether/bound"
	"bellwether/conf"
	"bellwether/pipe"
	"bellwether/samples"
)

// sized is a plain configuration of n nodes, f of which may be faulty, with delay d, and a period that is so much above the least one.
func sized(n, f, d, more int) api.Conf {
	c := samples.Sized(n, f, d)
	c.Period = 6*(f+1)*d + 1 + more
	return c
}

// confs are plain configurations of each F and D that there can be, with the least periods, and with greater ones.
func confs() []api.Conf {
	var out []api.Conf
	for f := range api.MaxFaulty + 1 {
		for d := 1; d <= api.MaxDelay; d++ {
			n := max(api.MinNodes, 3*f+1)
			out = append(out, sized(n, f, d, 0), sized(n, f, d, 1), sized(n, f, d, 7*d+f), sized(api.MaxNodes, f, d, api.MaxPeriod-6*(f+1)*d-1))
		}
	}
	return out
}

// sinces are numbers of ticks, those around each edge among them, and those that are none.
func sinces(c api.Conf) []int {
	out := []int{math.MinInt, math.MinInt + 1, -1 << 32, 1 << 32, math.MaxInt - 1, math.MaxInt}
	for since := -70; since <= c.Period+70; since++ {
		out = append(out, since)
	}
	return out
}

func regulars() []int {
	return []int{0, 1, 2, 3, 7, -1, -2, math.MinInt, math.MaxInt, math.MaxInt - 1}
}

// bitOf is Bit once more, straight from the chapter's words.
func bitOf(c api.Conf, since int) int {
	if since == c.Period-samples.Length(c) || since >= c.Period {
		return 1
	}
	return 0
}

// nextOf is Next once more, from the chapter's words and those of Sat and Clamp.
func nextOf(c api.Conf, since, regular int, pulse bool) (int, int) {
	switch {
	case pulse && (since != c.Period-1 || regular < 0):
		return 0, 0
	case pulse:
		return 0, min(min(regular, 2)+1, 2)
	case since < 0:
		return 0, max(0, min(regular, 2))
	case since >= c.Period-1:
		return c.Period, 0
	}
	return since + 1, max(0, min(regular, 2))
}

// P18.1: 1 at one age, and from Period on; 0 anywhere else.
func TestBit(t *testing.T) {
	for _, c := range confs() {
		ones := 0
		for _, since := range sinces(c) {
			got := beat.Bit(c, since)
			if got != bitOf(c, since) {
				t.Errorf("F %d, D %d, period %d: Bit(%d): %d", c.F, c.D, c.Period, since, got)
			}
			if since < c.Period {
				ones += got
			}
		}
		if ones != 1 {
			t.Errorf("F %d, D %d, period %d: %d ages within the period have 1", c.F, c.D, c.Period, ones)
		}
	}
	c := sized(4, 1, 1, 7)
	for since, want := range map[int]int{14: 1, 20: 1, 21: 1, 15: 0, 0: 0, 13: 0, 19: 0, -1: 0, -6: 0, -20: 0} {
		if c.Period != 20 || beat.Bit(c, since) != want {
			t.Errorf("period %d: Bit(%d) is not %d", c.Period, since, want)
		}
	}
}

func wantNext(t *testing.T, c api.Conf, since, regular int, pulse bool, s, r int) {
	t.Helper()
	if gotS, gotR := beat.Next(c, since, regular, pulse); gotS != s || gotR != r {
		t.Errorf("period %d: Next(%d, %d, %v): %d %d, not %d %d", c.Period, since, regular, pulse, gotS, gotR, s, r)
	}
}

// P18.1, written out.
func TestNextExamples(t *testing.T) {
	c := sized(4, 1, 1, 7)
	for _, x := range []struct {
		since, regular int
		pulse          bool
		s, r           int
	}{
		{19, 0, true, 0, 1}, {19, 1, true, 0, 2}, {19, 2, true, 0, 2}, {19, 9, true, 0, 2}, {19, -1, true, 0, 0}, {19, math.MinInt, true, 0, 0}, {19, math.MaxInt, true, 0, 2},
		{18, 2, true, 0, 0}, {20, 2, true, 0, 0}, {0, 1, true, 0, 0}, {-1, 1, true, 0, 0}, {39, 1, true, 0, 0},
		{0, 2, false, 1, 2}, {18, 2, false, 19, 2}, {19, 2, false, 20, 0}, {20, 2, false, 20, 0}, {21, 1, false, 20, 0}, {math.MaxInt, 1, false, 20, 0},
		{-1, 1, false, 0, 1}, {math.MinInt, 9, false, 0, 2}, {3, -7, false, 4, 0}, {3, 7, false, 4, 2},
	} {
		wantNext(t, c, x.since, x.regular, x.pulse, x.s, x.r)
	}
}

// P18.1: of each number of ticks.
func TestNextAsTold(t *testing.T) {
	for _, c := range confs() {
		for _, since := range sinces(c) {
			for _, regular := range regulars() {
				for _, pulse := range []bool{false, true} {
					s, r := nextOf(c, since, regular, pulse)
					wantNext(t, c, since, regular, pulse, s, r)
				}
			}
		}
	}
}

// mixed is a text of n bytes, codes most of them.
func mixed(source *rand.Rand, n int) string {
	return samples.Text(source.Intn, n, "0011222345")
}

func wantStep(t *testing.T, c api.Conf, codes string, since, regular int, votes []string, want string, s, r int, pulse bool) {
	t.Helper()
	got, gotS, gotR, gotPulse := beat.Step(c, codes, since, regular, votes...)
	if got != want || gotS != s || gotR != r || gotPulse != pulse {
		t.Errorf("N %d, period %d: Step(%q, %d, %d, %q): %q %d %d %v, not %q %d %d %v", c.N, c.Period, codes, since, regular, votes, got, gotS, gotR, gotPulse, want, s, r, pulse)
	}
}

// P18.2, reckoned by hand: the new instance has the bit of the new Since.
func TestStepExamples(t *testing.T) {
	c, ones := sized(4, 1, 1, 7), []string{"111111", "111111", "111111"}
	wantStep(t, c, "000001", 19, 1, ones, "014114", 0, 2, true)
	wantStep(t, c, "000001", 13, 1, ones, "014114", 0, 0, true)
	wantStep(t, c, "000000", 13, 1, nil, "120020", 14, 1, false)
	wantStep(t, c, "000000", 14, 1, nil, "020020", 15, 1, false)
	wantStep(t, c, "000000", 12, 1, nil, "020020", 13, 1, false)
	wantStep(t, c, "000000", 19, 2, nil, "120020", 20, 0, false)
	wantStep(t, c, "000004", 20, 2, nil, "020020", 0, 0, true)
	wantStep(t, c, "00000", 20, 2, nil, "120020", 20, 0, false)
	wantStep(t, c, "444444444", 3, 2, nil, "020020", 4, 2, false)
	wantStep(t, c, "000000", -9, -9, nil, "020020", 0, 0, false)
}

// P18.2: Move, Next and Begin, one behind the other.
func TestStepAsTold(t *testing.T) {
	source := rand.New(rand.NewSource(182))
	pulses := 0
	for _, c := range confs() {
		all := sinces(c)
		for range 60 {
			codes := mixed(source, samples.Length(c)+source.Intn(12)/11)
			votes := make([]string, source.Intn(c.N+3))
			for i := range votes {
				votes[i] = mixed(source, source.Intn(3*(c.F+1)+3))
			}
			since, regular := all[source.Intn(len(all))], source.Intn(5)
			if source.Intn(3) == 0 {
				since = c.Period - 1 - source.Intn(2)*samples.Length(c)
			}
			moved, end := pipe.Move(c, codes, votes...)
			s, r := nextOf(c, since, regular, end == 1)
			wantStep(t, c, codes, since, regular, votes, pipe.Begin(c, moved, bitOf(c, s)), s, r, end == 1)
			pulses += end
		}
	}
	if all := 60 * len(confs()); pulses < all/10 || pulses > all-all/10 {
		t.Error("hardly any other end:", pulses)
	}
}

// P18.1 to P18.3: of what is not plain all are empty, 0 or false.
func TestNotPlain(t *testing.T) {
	for _, c := range samples.Wrong() {
		if conf.Plain(c) == api.OK {
			t.Fatalf("%+v is plain", c)
		}
		for _, since := range []int{-1, 0, 11, 14, 19, 20, 400, math.MaxInt, math.MinInt} {
			if got := beat.Bit(c, since); got != 0 {
				t.Errorf("%+v: Bit(%d): %d", c, since, got)
			}
			for _, regular := range regulars() {
				wantNext(t, c, since, regular, true, 0, 0)
				wantNext(t, c, since, regular, false, 0, 0)
				wantStep(t, c, "444444", since, regular, slices.Repeat([]string{"111111"}, 13), "", 0, 0, false)
				wantStep(t, c, "", since, regular, nil, "", 0, 0, false)
			}
			if got := beat.Alone(c, since, "111111", 50); got != "" {
				t.Errorf("%+v: Alone: %q", c, got)
			}
		}
	}
}

func wantAlone(t *testing.T, c api.Conf, since int, pending string, ticks int, want string) {
	t.Helper()
	if got := beat.Alone(c, since, pending, ticks); got != want {
		t.Errorf("F %d, D %d, period %d: Alone(%d, %q, %d): %q, not %q", c.F, c.D, c.Period, since, pending, ticks, got, want)
	}
}

// P18.3, reckoned by hand.
func TestAloneExamples(t *testing.T) {
	c := sized(4, 1, 1, 7)
	period := strings.Repeat("0", 19) + "1"
	for _, x := range []struct {
		since   int
		pending string
		ticks   int
		want    string
	}{
		{0, "", 60, period + period + period},
		{19, "1", 41, "1" + period + period},
		{20, "", 34, "000000111111" + period + "00"},
		{19, "", 34, "000000111111" + period + "00"},
		{18, "", 34, "000000011111" + "1" + period + "0"},
		{14, "", 33, "00000000000" + "111111" + "0000000000000000"},
		{13, "", 33, "000000" + "1" + period + "000000"},
		{5, "1x1", 5, "10100"},
		{5, "1x1", 23, "101" + period},
		{5, "\x010012é", 12, "000100000000"},
		{5, "111111111111", 27, "111111" + period + "0"},
		{5, "000000111111", 12, "000000000000"},
		{20, "000001", 32, "000001" + "111110" + strings.Repeat("0", 18) + "10"},
		{-5, "", 26, "00000000000000000000" + "1" + "00000"},
		{math.MinInt, "", 22, "00000000000000000000" + "10"},
		{math.MaxInt, "", 13, "0000001111110"},
	} {
		wantAlone(t, c, x.since, x.pending, x.ticks, x.want)
	}
}

// P18.3: so many digits as ticks, from none to MaxTicks; more of them begin with the fewer ones.
func TestAloneTicks(t *testing.T) {
	for _, c := range []api.Conf{sized(4, 1, 1, 7), sized(13, 4, 4, 0), sized(13, 4, 4, 279), sized(4, 0, 1, 0)} {
		whole := beat.Alone(c, 3, "1", api.MaxTicks)
		for _, ticks := range []int{0, -1, math.MinInt} {
			wantAlone(t, c, 3, "1", ticks, "")
		}
		for _, ticks := range []int{1, 2, 59, 60, 61, 399, 1999, 2000} {
			wantAlone(t, c, 3, "1", ticks, whole[:ticks])
		}
		for _, ticks := range []int{2001, 1 << 40, math.MaxInt} {
			wantAlone(t, c, 3, "1", ticks, whole)
		}
		if len(whole) != api.MaxTicks {
			t.Errorf("%d digits", len(whole))
		}
	}
}

// aloneOf is Alone once more, straight from the chapter's words: ends stand at their ticks.
func aloneOf(c api.Conf, since int, pending string, ticks int) string {
	length := samples.Length(c)
	ends := make([]int, ticks+length)
	for i := range min(length, len(pending), ticks) {
		if pending[i] == '1' {
			ends[i] = 1
		}
	}
	out := ""
	for t := range ticks {
		since, _ = nextOf(c, since, 0, ends[t] == 1)
		ends[t+length] = bitOf(c, since)
		out += string("01"[ends[t]])
	}
	return out
}

// P18.3: whatever since and pending are.
func TestAloneAsTold(t *testing.T) {
	source := rand.New(rand.NewSource(183))
	for _, c := range confs() {
		all := sinces(c)
		for range 40 {
			since, pending, ticks := all[source.Intn(len(all))], mixed(source, source.Intn(samples.Length(c)+9)), source.Intn(500)
			wantAlone(t, c, since, pending, ticks, aloneOf(c, since, pending, ticks))
		}
	}
}

// wantRegular holds digits from some tick on to one pulse in each row of as many ticks as a period has, and to pulses just a period apart.
func wantRegular(t *testing.T, c api.Conf, digits string, from int, of string) {
	t.Helper()
	for tick := from; tick+c.Period <= len(digits); tick++ {
		if n := strings.Count(digits[tick:tick+c.Period], "1"); n != 1 {
			t.Fatalf("F %d, D %d, period %d, %s: from tick %d on %d pulses in a period: %s", c.F, c.D, c.Period, of, tick, n, digits)
		}
		if tick+c.Period < len(digits) && digits[tick] != digits[tick+c.Period] {
			t.Fatalf("F %d, D %d, period %d, %s: tick %d is not as one a period later: %s", c.F, c.D, c.Period, of, tick, digits)
		}
	}
}

// P18.4: behind a period and two Lengths, from all that there can be ahead of it where that is little, and by chance where it is much.
func TestAloneSettles(t *testing.T) {
	for _, c := range []api.Conf{sized(4, 0, 1, 0), sized(4, 0, 1, 5), sized(4, 1, 1, 0), sized(4, 1, 1, 7), sized(4, 0, 2, 0), sized(7, 2, 1, 0)} {
		for since := -1; since <= c.Period+1; since++ {
			for n := range 1 << samples.Length(c) {
				pending := make([]byte, samples.Length(c))
				for i := range pending {
					pending[i] = byte('0' + n>>i&1)
				}
				digits := beat.Alone(c, since, string(pending), 4*c.Period)
				wantRegular(t, c, digits, c.Period+2*samples.Length(c), string(pending))
			}
		}
	}
	source := rand.New(rand.NewSource(184))
	for _, c := range confs() {
		for range 50 {
			digits := beat.Alone(c, source.Intn(c.Period+1), mixed(source, samples.Length(c)), 4*c.Period)
			wantRegular(t, c, digits, c.Period+2*samples.Length(c), "by chance")
		}
	}
}

// cluster is nodes that tell each other D ticks later; where a node is faulty, lie is what it tells.
type cluster struct {
	api.Conf
	lie     func(tick, from, to int) string
	faulty  []int
	pipes   []string
	since   []int
	regular []int
	told    [][]string // by tick, from the first one on; that one is D ticks ahead of the first one that goes by
}

// begun is a cluster of spoilt memories, to which anything comes in the first D ticks.
func begun(c api.Conf, source *rand.Rand, faulty []int) *cluster {
	k := &cluster{Conf: c, faulty: faulty}
	for range c.N {
		k.pipes = append(k.pipes, mixed(source, samples.Length(c)))
		k.since = append(k.since, source.Intn(c.Period+1))
		k.regular = append(k.regular, source.Intn(4)-1)
	}
	for range c.D {
		row := make([]string, c.N)
		for i := range row {
			row[i] = mixed(source, 3*(c.F+1))
		}
		k.told = append(k.told, row)
	}
	return k
}

func (k *cluster) votes(tick, to int) []string {
	out := slices.Clone(k.told[tick])
	for _, from := range k.faulty {
		out[from] = k.lie(tick, from, to)
	}
	return out
}

// tick is each honest node's step; a faulty one's pulse is as the first honest one's.
func (k *cluster) tick(tick int) []bool {
	pulses, row := make([]bool, k.N), make([]string, k.N)
	for node := range k.N {
		if slices.Contains(k.faulty, node) {
			continue
		}
		k.pipes[node], k.since[node], k.regular[node], pulses[node] = beat.Step(k.Conf, k.pipes[node], k.since[node], k.regular[node], k.votes(tick, node)...)
		row[node] = pipe.Tell(k.Conf, k.pipes[node])
	}
	k.told = append(k.told, row)
	honest := k.honest()
	for _, node := range k.faulty {
		pulses[node] = pulses[honest]
	}
	return pulses
}

// honest is the first honest node.
func (k *cluster) honest() int {
	node := 0
	for slices.Contains(k.faulty, node) {
		node++
	}
	return node
}

// run is the first honest node's pulses; from some tick on all nodes must have the same.
func (k *cluster) run(t *testing.T, ticks, from int) string {
	t.Helper()
	out := make([]byte, ticks)
	for tick := range ticks {
		pulses := k.tick(tick)
		for node, pulse := range pulses {
			if tick >= from && pulse != pulses[k.honest()] {
				t.Fatalf("N %d, F %d, D %d: at tick %d node %d is apart: %v", k.N, k.F, k.D, tick, node, pulses)
			}
		}
		out[tick] = '0'
		if pulses[k.honest()] {
			out[tick] = '1'
		}
	}
	return string(out)
}

// lies are ways to lie: by chance, one thing to some and another to others, against the majority, and nothing.
func (k *cluster) lies(source *rand.Rand) []func(tick, from, to int) string {
	width := 3 * (k.F + 1)
	return []func(tick, from, to int) string{
		func(tick, from, to int) string { return mixed(source, source.Intn(width+2)) },
		func(tick, from, to int) string { return strings.Repeat(string("01"[to%2]), width) },
		func(tick, from, to int) string { return strings.Repeat(string("01"[(tick+to)/2%2]), width) },
		func(tick, from, to int) string {
			return strings.NewReplacer("0", "1", "1", "0").Replace(k.told[tick][k.honest()])
		},
		func(tick, from, to int) string { return k.told[tick][(k.honest()+to+tick)%k.N] },
		func(tick, from, to int) string { return strings.Repeat("1", width) },
		func(tick, from, to int) string { return "" },
	}
}

// P18.4: nodes together, whatever they begin with and whatever faulty ones tell, the first kings among them: behind Settle ticks their pulses are at the same ticks, each Period ticks.
func TestClusterSettles(t *testing.T) {
	source := rand.New(rand.NewSource(185))
	for _, c := range []api.Conf{sized(4, 1, 1, 0), sized(4, 1, 1, 7), sized(4, 1, 2, 0), sized(5, 1, 3, 4), sized(7, 2, 1, 0), sized(7, 2, 2, 3), sized(4, 0, 4, 0), sized(13, 4, 1, 0)} {
		settle := bound.Settle(c)
		if settle != 1+4*samples.Length(c)+2*c.Period {
			t.Fatal("Settle:", settle)
		}
		kings := []int{0, 1, 2, 3}
		for _, faulty := range [][]int{nil, kings[:c.F], source.Perm(c.N)[:c.F]} {
			for way := range (&cluster{Conf: c}).lies(source) {
				k := begun(c, source, faulty)
				k.lie = k.lies(source)[way]
				wantRegular(t, c, k.run(t, settle+3*c.Period, settle), settle, "in a cluster")
				for node, regular := range k.regular {
					if !slices.Contains(faulty, node) && regular != 2 {
						t.Errorf("N %d, D %d: in the end node %d has %d regular pulses", c.N, c.D, node, regular)
					}
				}
			}
		}
	}
}

// P18.4: many small clusters, with memories of all kinds.
func TestSmallClustersSettle(t *testing.T) {
	source := rand.New(rand.NewSource(186))
	for range 150 {
		c := sized(4, 1, 1, source.Intn(10))
		k := begun(c, source, []int{source.Intn(4)})
		ways := k.lies(source)
		k.lie = func(tick, from, to int) string { return ways[source.Intn(len(ways))](tick, from, to) }
		settle := bound.Settle(c)
		wantRegular(t, c, k.run(t, settle+3*c.Period, settle), settle, "in a small cluster")
	}
}

// The document's first example: four nodes that have nothing, and hear nothing at the first tick.
func TestClusterFromNothing(t *testing.T) {
	c := sized(4, 1, 1, 7)
	k := &cluster{Conf: c, pipes: slices.Repeat([]string{pipe.Blank(c)}, 4), since: make([]int, 4), regular: make([]int, 4), told: [][]string{make([]string, 4)}}
	digits := k.run(t, 100, 0)
	var at []int
	for tick := range digits {
		if digits[tick] == '1' {
			at = append(at, tick)
		}
	}
	if !slices.Equal(at, []int{2, 5, 25, 45, 65, 85}) {
		t.Error("pulses at", at)
	}
}

// Rules 4 to 6: no list that is handed in is changed or kept, and the same answer comes again.
func TestListsAreNotChanged(t *testing.T) {
	c, votes := sized(4, 1, 1, 7), []string{"111111", "1x1111", "111111", "9"}
	for range 3 {
		wantStep(t, c, "000001", 19, 1, votes[:3], "011114", 0, 2, true)
		wantAlone(t, c, 13, "1", 8, "10000000")
	}
	if !slices.Equal(votes, []string{"111111", "1x1111", "111111", "9"}) || !slices.Equal(c.Table, []int{0, 1, 2, 3}) {
		t.Error("changed:", votes, c.Table)
	}
	clear(votes)
	wantStep(t, c, "000001", 19, 1, []string{"111111", "1x1111", "111111"}, "011114", 0, 2, true)
}
