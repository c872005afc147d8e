package pipe_test

import (
	"math"
	"math/rand"
	"slices"
	"strings"
	"testing"

	"bellwether/api"
	"bellwether/conf"
	"bellwether/king"
	"bellwether/pipe"
	"bellwether/samples"
)

// mixed is a text of n bytes, codes most of them.
func mixed(source *rand.Rand, n int) string {
	return samples.Text(source.Intn, n, "0011222345")
}

// mixedVotes are so many texts of up to that many bytes; half of the time nearly all are the same.
func mixedVotes(source *rand.Rand, n, most int) []string {
	out := make([]string, n)
	for i := range out {
		out[i] = mixed(source, source.Intn(most+1))
		if n > 3 && i < n-source.Intn(3) && source.Intn(2) == 0 {
			out[i] = out[0]
		}
	}
	return out
}

// wrongLengths are texts that have one byte too few or too many, and others that are no pipe's.
func wrongLengths(c api.Conf) []string {
	n := samples.Length(c)
	return []string{"", "1", strings.Repeat("4", n-1), strings.Repeat("4", n+1), strings.Repeat("1", 2*n), strings.Repeat("é", n), strings.Repeat("1", 100000)}
}

func wantMove(t *testing.T, c api.Conf, codes string, votes []string, want string, end int) {
	t.Helper()
	if got, e := pipe.Move(c, codes, votes...); got != want || e != end {
		t.Errorf("Move(N %d, F %d, D %d; %q, %q): %q %d, not %q %d", c.N, c.F, c.D, codes, votes, got, e, want, end)
	}
}

// The chapter's example.
func TestExample(t *testing.T) {
	c := samples.Sized(4, 1, 1)
	votes := slices.Repeat([]string{"111111"}, 4)
	now, end := pipe.Begin(c, pipe.Blank(c), 1), 0
	for range 6 {
		now, end = pipe.Move(c, now, votes...)
	}
	if end != 1 {
		t.Error("behind 6 ticks:", now, end)
	}
}

// P17.1
func TestBlank(t *testing.T) {
	for _, c := range samples.Confs() {
		if got := pipe.Blank(c); got != strings.Repeat("0", samples.Length(c)) {
			t.Errorf("F %d, D %d: %q", c.F, c.D, got)
		}
	}
}

// P17.1: each exchange is told by the one instance whose age is x D, and by no other; any byte that is no code is told as 2.
func TestTell(t *testing.T) {
	for _, c := range samples.Confs() {
		for place := range samples.Length(c) {
			for code, value := range map[byte]byte{'0': '0', '1': '1', '2': '2', '3': '0', '4': '1', '5': '2', '6': '2', '/': '2', 0: '2', 1: '2', 'x': '2', 200: '2', 255: '2'} {
				codes := []byte(strings.Repeat("1", samples.Length(c)))
				codes[place] = code
				want := []byte(strings.Repeat("1", 3*(c.F+1)))
				if place%c.D == 0 {
					want[place/c.D] = value
				}
				if got := pipe.Tell(c, string(codes)); got != string(want) {
					t.Errorf("F %d, D %d: Tell(%q): %q, not %q", c.F, c.D, codes, got, want)
				}
			}
		}
	}
	if got := pipe.Tell(samples.Sized(4, 1, 2), "012345012345"); got != "021021" {
		t.Error("by hand:", got)
	}
}

// P17.1: the code of Start of bit, and nothing else is changed.
func TestBegin(t *testing.T) {
	source := rand.New(rand.NewSource(171))
	for _, c := range samples.Confs() {
		for _, bit := range []int{0, 1, 2, 3, 4, 5, -1, '1', 257, math.MaxInt, math.MinInt} {
			want := "0"
			if bit == 1 {
				want = "1"
			}
			codes := mixed(source, samples.Length(c))
			if got := pipe.Begin(c, codes, bit); got != want+codes[1:] {
				t.Errorf("F %d, D %d: Begin(%q, %d): %q", c.F, c.D, codes, bit, got)
			}
		}
	}
}

// P17.1, P17.2: a pipe that has not just so many bytes counts as blank.
func TestWrongLengths(t *testing.T) {
	for _, c := range samples.Confs() {
		votes := slices.Repeat([]string{strings.Repeat("1", 3*(c.F+1))}, c.N)
		blank := strings.Repeat("0", samples.Length(c))
		want, end := moved(c, blank, votes)
		for _, codes := range wrongLengths(c) {
			if got := pipe.Tell(c, codes); got != strings.Repeat("0", 3*(c.F+1)) {
				t.Errorf("F %d, D %d: Tell(%d bytes): %q", c.F, c.D, len(codes), got)
			}
			if got := pipe.Begin(c, codes, 1); got != "1"+blank[1:] {
				t.Errorf("F %d, D %d: Begin(%d bytes, 1): %q", c.F, c.D, len(codes), got)
			}
			if got := pipe.Begin(c, codes, 0); got != blank {
				t.Errorf("F %d, D %d: Begin(%d bytes, 0): %q", c.F, c.D, len(codes), got)
			}
			wantMove(t, c, codes, votes, want, end)
		}
	}
}

// P17.1, P17.2: of what is not plain all are empty, or 0.
func TestNotPlain(t *testing.T) {
	votes := slices.Repeat([]string{"111111111111111"}, 13)
	for _, c := range samples.Wrong() {
		if conf.Plain(c) == api.OK {
			t.Fatalf("%+v is plain", c)
		}
		if got := pipe.Blank(c); got != "" {
			t.Errorf("%+v: Blank: %q", c, got)
		}
		for _, codes := range []string{"", "1", "4", "111111", strings.Repeat("4", 60)} {
			if got := pipe.Tell(c, codes); got != "" {
				t.Errorf("%+v: Tell: %q", c, got)
			}
			if got := pipe.Begin(c, codes, 1) + pipe.Begin(c, codes, 0); got != "" {
				t.Errorf("%+v: Begin: %q", c, got)
			}
			wantMove(t, c, codes, votes, "", 0)
			wantMove(t, c, codes, nil, "", 0)
		}
	}
}

// P17.2, reckoned by hand. With D 2 those at odd ages move on as they are, whatever bytes they are.
func TestMoveExamples(t *testing.T) {
	one, two := samples.Sized(4, 1, 1), samples.Sized(4, 1, 2)
	ones := []string{"111111", "111111", "111111"}
	for _, x := range []struct {
		c     api.Conf
		codes string
		votes []string
		want  string
		end   int
	}{
		{one, "000000", nil, "020020", 0},
		{one, "000001", ones, "014114", 1},
		{one, "000003", ones, "014114", 0},
		{one, "000004", nil, "020020", 1},
		{one, "000005", []string{"", "111110"}, "020020", 0},
		{one, "000005", []string{"", "111111"}, "020020", 1},
		{one, "000005", []string{"", "111112"}, "020020", 1},
		{one, "000005", []string{"111111"}, "020120", 0},
		{one, "00000x", []string{"", "000001"}, "020020", 1},
		{one, "005000", []string{"001000", "000000"}, "020120", 0},
		{one, "000000", []string{"1", "12", "1x1", "1"}, "010020", 0},
		{two, "100000000000", ones, "011040101040", 1},
		{two, "x\xffé34567890", nil, "0x2\xc323152729", 0},
	} {
		wantMove(t, x.c, x.codes, x.votes, x.want, x.end)
	}
}

// digit is what a text tells at a place, straight from the chapters' words.
func digit(text string, place int) int {
	if place < len(text) {
		return strings.IndexByte("012", text[place])
	}
	return -1
}

// heard is a code behind exchange x, straight from the chapters' words.
func heard(c api.Conf, x int, code byte, votes []string) byte {
	var list []int
	told := -1
	for i, text := range votes {
		list = append(list, digit(text, x))
		if i == x/3 {
			told = digit(text, x)
		}
	}
	b := king.Step(c, x, king.Read(strings.IndexByte("012345", code)), told, list...)
	return "012345"[king.Code(b)]
}

// moved is Move once more, straight from the chapter's words. It trusts that c is plain, and that the pipe has its length.
func moved(c api.Conf, codes string, votes []string) (string, int) {
	out := []byte{'0'}
	for age := 1; age <= samples.Length(c); age++ {
		code := codes[age-1]
		if age%c.D == 0 {
			code = heard(c, age/c.D-1, code, votes)
		}
		out = append(out, code)
	}
	end := 0
	if last := out[samples.Length(c)]; last == '1' || last == '4' {
		end = 1
	}
	return string(out[:samples.Length(c)]), end
}

// P17.2: texts of any bytes and lengths, more votes than nodes and fewer, kings that are not among them.
func TestMoveAsTold(t *testing.T) {
	source := rand.New(rand.NewSource(172))
	ends := 0
	for _, c := range samples.Confs() {
		for range 60 {
			codes := mixed(source, samples.Length(c))
			votes := mixedVotes(source, source.Intn(c.N+4), 3*(c.F+1)+2)
			want, end := moved(c, codes, votes)
			wantMove(t, c, codes, votes, want, end)
			ends += end
		}
	}
	if all := 60 * len(samples.Confs()); ends < all/10 || ends > all-all/10 {
		t.Error("hardly any other end:", ends)
	}
}

// P17.2: each byte as a code and as a vote, at each place.
func TestMoveOfEachByte(t *testing.T) {
	for _, c := range []api.Conf{samples.Sized(4, 1, 1), samples.Sized(4, 0, 3)} {
		for b := range 256 {
			some := string([]byte{byte(b)})
			codes, votes := strings.Repeat(some, samples.Length(c)), slices.Repeat([]string{strings.Repeat(some, 3*(c.F+1))}, c.N)
			for _, list := range [][]string{nil, votes} {
				want, end := moved(c, codes, list)
				wantMove(t, c, codes, list, want, end)
			}
			blank := pipe.Blank(c)
			want, end := moved(c, blank, votes)
			wantMove(t, c, blank, votes, want, end)
		}
	}
}

// P17.3: an instance that is followed by itself, exchange by exchange, is at its place in the pipe at each age, and ends there as it does alone, whatever others there are.
func TestGoesOnAsAlone(t *testing.T) {
	source := rand.New(rand.NewSource(173))
	for _, c := range samples.Confs() {
		now := mixed(source, samples.Length(c))
		var alone []byte // the youngest one last
		for tick := range 3 * samples.Length(c) {
			votes := mixedVotes(source, c.N, 3*(c.F+1))
			for i := range alone {
				if age := len(alone) - i; age%c.D == 0 {
					alone[i] = heard(c, age/c.D-1, alone[i], votes)
				}
			}
			var end int
			now, end = pipe.Move(c, now, votes...)
			if len(alone) == samples.Length(c) {
				if want := int(alone[0]-'0') % 3; end != want {
					t.Fatalf("F %d, D %d, tick %d: done with %d, alone with %d", c.F, c.D, tick, end, want)
				}
				alone = alone[1:]
			}
			bit := source.Intn(2)
			now = pipe.Begin(c, now, bit)
			alone = append(alone, byte('0'+bit))
			for age := range alone {
				if now[age] != alone[len(alone)-1-age] {
					t.Fatalf("F %d, D %d, tick %d: %q at age %d, alone %q", c.F, c.D, tick, now, age, alone)
				}
			}
		}
	}
}

// cluster is nodes' pipes, what each node told at each tick, and with which bits instances began; what faulty nodes tell is in lies, by tick, exchange, and who tells whom.
type cluster struct {
	api.Conf
	faulty []int
	pipes  []string
	told   [][]string
	begun  [][]int
	lies   func(tick, x, from, to int) int
}

// votes are what all nodes told one D ticks ago.
func (k *cluster) votes(tick, to int) []string {
	then := tick - k.D
	out := make([]string, k.N)
	for from := range out {
		if then < 0 {
			continue
		}
		out[from] = k.told[then][from]
		if slices.Contains(k.faulty, from) {
			text := make([]byte, 3*(k.F+1))
			for x := range text {
				text[x] = byte('0' + k.lies(then, x, from, to))
			}
			out[from] = string(text)
		}
	}
	return out
}

// tick lets all pipes move and begin an instance, and answers what each one's instance ended with.
func (k *cluster) tick(tick int, bits []int) []int {
	ends, told := make([]int, k.N), make([]string, k.N)
	for node := range k.N {
		k.pipes[node], ends[node] = pipe.Move(k.Conf, k.pipes[node], k.votes(tick, node)...)
		k.pipes[node] = pipe.Begin(k.Conf, k.pipes[node], bits[node])
		told[node] = pipe.Tell(k.Conf, k.pipes[node])
	}
	k.told, k.begun = append(k.told, told), append(k.begun, bits)
	return ends
}

// played is what the instance begun at a tick ends with by king.Play.
func (k *cluster) played(begun int) []int {
	var lies []int
	for x := range 3 * (k.F + 1) {
		for from := range k.N {
			for to := range k.N {
				lies = append(lies, k.lies(begun+x*k.D, x, from, to))
			}
		}
	}
	return king.Play(k.Conf, k.begun[begun], k.faulty, lies)
}

// P17.3: nodes together, of which some lie to each one otherwise: each tick's instance ends as king.Play says of it alone.
func TestClusterAsPlayed(t *testing.T) {
	source := rand.New(rand.NewSource(174))
	for _, c := range []api.Conf{samples.Sized(4, 1, 1), samples.Sized(4, 1, 3), samples.Sized(7, 2, 2), samples.Sized(4, 0, 4), samples.Sized(13, 4, 1)} {
		table := make([]int, 4099)
		for i := range table {
			table[i] = source.Intn(3)
		}
		k := cluster{Conf: c, faulty: source.Perm(c.N)[:c.F], pipes: make([]string, c.N)}
		k.lies = func(tick, x, from, to int) int {
			return table[(((tick*17+x)*13+from)*13+to)%len(table)]
		}
		seen := [2]int{}
		for tick := range 3 * samples.Length(c) {
			bits := make([]int, c.N)
			for i := range bits {
				bits[i] = source.Intn(2)
			}
			ends := k.tick(tick, bits)
			if tick < samples.Length(c) {
				continue
			}
			for node, want := range k.played(tick - samples.Length(c)) {
				if want >= 0 && ends[node] != want {
					t.Fatalf("N %d, D %d, tick %d: node %d ends with %d, not %d", c.N, c.D, tick, node, ends[node], want)
				}
				if want >= 0 {
					seen[want]++
				}
			}
		}
		if seen[0] == 0 || seen[1] == 0 {
			t.Errorf("N %d, D %d: ends %v", c.N, c.D, seen)
		}
	}
}

// Rules 4 to 6: no list that is handed in is changed or kept, and the same answer comes again.
func TestListsAreNotChanged(t *testing.T) {
	c := samples.Sized(4, 1, 2)
	codes, votes := "012345012345", []string{"1x0", "111111", "120", "", "999999"}
	first, end := pipe.Move(c, codes, votes[:4]...)
	for range 3 {
		wantMove(t, c, codes, votes[:4], first, end)
	}
	if !slices.Equal(votes, []string{"1x0", "111111", "120", "", "999999"}) || codes != "012345012345" || !slices.Equal(c.Table, []int{0, 1, 2, 3}) {
		t.Error("changed:", codes, votes, c.Table)
	}
	clear(votes)
	wantMove(t, c, codes, []string{"1x0", "111111", "120", ""}, first, end)
}
