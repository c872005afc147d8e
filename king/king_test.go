package king_test

import (
	"math"
	"math/rand"
	"slices"
	"testing"

	"bellwether/api"
	"bellwether/king"
	"bellwether/tally"
)

// sized is a plain configuration of n nodes, f of which may be faulty.
func sized(n, f int) api.Conf {
	c := api.Conf{N: n, F: f, D: 1, Period: api.MaxPeriod, Rate: 64, Offset: 64, Slot: 190, Mod: 10, Fresh: 3}
	for slot := range n {
		c.Table = append(c.Table, slot)
	}
	return c
}

// confs are plain configurations of each F that there can be, with few nodes and with many.
func confs() []api.Conf {
	return []api.Conf{sized(4, 0), sized(4, 1), sized(6, 1), sized(7, 2), sized(9, 2), sized(10, 3), sized(13, 4), sized(13, 0)}
}

// wrongConfs are configurations that are not plain.
func wrongConfs() []api.Conf {
	out := []api.Conf{{}, {N: math.MaxInt, F: math.MaxInt}, {N: math.MinInt, F: math.MinInt}, {N: 4, F: -1}, {N: 4, F: 1}}
	for _, turn := range []func(c *api.Conf){
		func(c *api.Conf) { c.F = 2 },
		func(c *api.Conf) { c.N = 14 },
		func(c *api.Conf) { c.D = 5 },
		func(c *api.Conf) { c.Fresh = 0 },
		func(c *api.Conf) { c.Table = c.Table[1:] },
	} {
		c := sized(4, 1)
		turn(&c)
		out = append(out, c)
	}
	return out
}

// wildNumbers are values that are none.
func wildNumbers() []int {
	return []int{math.MinInt, math.MinInt + 1, -1 << 32, -3, -2, -1, 3, 4, 5, 6, 7, 9, 256, 1 << 32, 1<<32 + 1, math.MaxInt - 1, math.MaxInt}
}

// exchanges are numbers of exchanges of which what is left by 3 is rest.
func exchanges(rest int) []int {
	return [][]int{
		{0, 3, 6, 12, 300, -3, -300, math.MaxInt - math.MaxInt%3, math.MinInt - math.MinInt%3},
		{1, 4, 7, 13, 301, -2, -299, math.MaxInt - math.MaxInt%3 - 2},
		{2, 5, 8, 14, 302, -1, -298, math.MaxInt - math.MaxInt%3 - 1},
	}[rest]
}

// bits are all bits, and those of wild values.
func bits() []api.Bit {
	var out []api.Bit
	for _, v := range append(wildNumbers(), 0, 1, 2) {
		out = append(out, api.Bit{V: v}, api.Bit{V: v, Strong: true})
	}
	return out
}

// counting is a number's value: any other than 0, 1 and 2 counts as 2.
func counting(v int) int {
	if v == 0 || v == 1 {
		return v
	}
	return 2
}

func repeated(v, n int) []int {
	return slices.Repeat([]int{v}, n)
}

// someVotes are lists of votes with and without a quorum, with and without some.
func someVotes(c api.Conf) [][]int {
	out := [][]int{nil, wildNumbers()}
	for v := range 3 {
		for _, n := range []int{c.F, c.F + 1, c.N - c.F - 1, c.N - c.F, c.N} {
			out = append(out, repeated(v, n), append(repeated(v, n), repeated((v+1)%3, c.F)...), append(repeated(v, n), repeated((v+1)%3, c.F+1)...), append(repeated(v, n), wildNumbers()...))
		}
	}
	return out
}

func wantStep(t *testing.T, c api.Conf, x int, b api.Bit, told int, votes []int, want api.Bit) {
	t.Helper()
	if got := king.Step(c, x, b, told, votes...); got != want {
		t.Errorf("Step(%d nodes, %d faulty; %d, %v, %d, %v): %v, not %v", c.N, c.F, x, b, told, votes, got, want)
	}
}

func wantPlay(t *testing.T, c api.Conf, bits, faulty, lies, want []int) {
	t.Helper()
	if got := king.Play(c, bits, faulty, lies); !slices.Equal(got, want) {
		t.Errorf("Play(%d nodes, %d faulty; %v, %v, %v): %v, not %v", c.N, c.F, bits, faulty, lies, got, want)
	}
}

// P14.1
func TestStart(t *testing.T) {
	if got := king.Start(1); got != (api.Bit{V: 1}) {
		t.Error("of 1:", got)
	}
	for _, n := range append(wildNumbers(), 0, 2) {
		if got := king.Start(n); got != (api.Bit{}) {
			t.Error("of", n, got)
		}
	}
}

// P14.1: behind exchange 0 the votes alone count, and no bit is strong.
func TestFirstExchange(t *testing.T) {
	for _, c := range confs() {
		for _, votes := range someVotes(c) {
			want := api.Bit{V: tally.Most(c, votes...)}
			for _, x := range exchanges(0) {
				for _, b := range bits() {
					for _, told := range []int{-1, 0, 1, 2} {
						wantStep(t, c, x, b, told, votes, want)
					}
				}
			}
		}
	}
}

// P14.1: behind exchange 1 it is the least of which there are some, else the value now; strong where there are a quorum of it.
func TestSecondExchange(t *testing.T) {
	for _, c := range confs() {
		for _, votes := range someVotes(c) {
			for _, x := range exchanges(1) {
				for _, b := range bits() {
					v := tally.Least(c, counting(b.V), votes...)
					want := api.Bit{V: v, Strong: tally.Count(v, votes...) >= c.N-c.F}
					for _, told := range []int{-1, 0, 1, 2} {
						wantStep(t, c, x, b, told, votes, want)
					}
				}
			}
		}
	}
}

// P14.1: behind exchange 2 the votes count for nothing; who is strong and knows its value keeps it, all others have the king's.
func TestThirdExchange(t *testing.T) {
	for _, c := range confs() {
		for _, votes := range [][]int{nil, repeated(0, c.N), repeated(1, c.N), repeated(2, c.N), wildNumbers()} {
			for _, x := range exchanges(2) {
				for _, told := range append(wildNumbers(), 0, 1, 2) {
					kings := 0
					if told == 1 || told == 2 {
						kings = 1
					}
					for _, b := range bits() {
						want := api.Bit{V: kings}
						if b.Strong && counting(b.V) != 2 {
							want.V = b.V
						}
						wantStep(t, c, x, b, told, votes, want)
					}
				}
			}
		}
	}
}

// P14.1, written out.
func TestStepExamples(t *testing.T) {
	c := sized(7, 2)
	for _, x := range []struct {
		x     int
		b     api.Bit
		told  int
		votes []int
		want  api.Bit
	}{
		{0, api.Bit{V: 0, Strong: true}, 0, []int{1, 1, 1, 1, 1, 0, 0}, api.Bit{V: 1}},
		{0, api.Bit{V: 1, Strong: true}, 1, []int{1, 1, 1, 1, 0, 0, 0}, api.Bit{V: 2}},
		{0, api.Bit{V: 1}, 1, []int{0, 0, 0, 0, 0, 1, 1}, api.Bit{V: 0}},
		{1, api.Bit{V: 0}, 0, []int{1, 1, 1, 2, 2, 2, 2}, api.Bit{V: 1}},
		{1, api.Bit{V: 0}, 0, []int{1, 1, 1, 1, 1, 0, 0}, api.Bit{V: 1, Strong: true}},
		{1, api.Bit{V: 1}, 0, []int{0, 0, 0, 1, 1, 1, 1}, api.Bit{V: 0}},
		{1, api.Bit{V: 1}, 0, []int{2, 2, 2, 2, 2, 0, 0}, api.Bit{V: 2, Strong: true}},
		{1, api.Bit{V: 1, Strong: true}, 0, []int{0, 0, 1, 1, 2, 2, 9}, api.Bit{V: 1}},
		{1, api.Bit{V: -8, Strong: true}, 0, []int{0, 0, 1, 1, 2, 2, 9}, api.Bit{V: 2}},
		{2, api.Bit{V: 0, Strong: true}, 1, nil, api.Bit{V: 0}},
		{2, api.Bit{V: 0}, 1, nil, api.Bit{V: 1}},
		{2, api.Bit{V: 2, Strong: true}, 2, nil, api.Bit{V: 1}},
		{2, api.Bit{V: 3, Strong: true}, 0, nil, api.Bit{V: 0}},
		{2, api.Bit{V: 1}, 3, nil, api.Bit{V: 0}},
		{-1, api.Bit{V: 1}, -1, nil, api.Bit{V: 0}},
	} {
		wantStep(t, c, x.x, x.b, x.told, x.votes, x.want)
	}
}

// P14.1: of what is not plain it is as if there were no votes.
func TestStepNotPlain(t *testing.T) {
	for _, c := range wrongConfs() {
		for _, votes := range [][]int{nil, {0}, {1, 1, 1, 1}, repeated(0, 40), repeated(1, 40), repeated(2, 40)} {
			for _, b := range bits() {
				for _, told := range []int{-1, 0, 1, 2, 3} {
					wantStep(t, c, 0, b, told, votes, api.Bit{V: 2})
					wantStep(t, c, 1, b, told, votes, api.Bit{V: counting(b.V)})
					wantStep(t, c, 2, b, told, votes, king.Step(sized(4, 1), 2, b, told))
				}
			}
		}
	}
}

// P14.1
func TestCodeAndRead(t *testing.T) {
	for n, b := range []api.Bit{{V: 0}, {V: 1}, {V: 2}, {V: 0, Strong: true}, {V: 1, Strong: true}, {V: 2, Strong: true}} {
		if got := king.Code(b); got != n {
			t.Errorf("Code(%v): %d, not %d", b, got, n)
		}
		if got := king.Read(n); got != b {
			t.Errorf("Read(%d): %v, not %v", n, got, b)
		}
	}
	for _, n := range wildNumbers() {
		if king.Code(api.Bit{V: n}) != 2 || king.Code(api.Bit{V: n, Strong: true}) != 5 {
			t.Error("Code of value", n)
		}
		if n >= 0 && n <= 5 {
			continue
		}
		if got := king.Read(n); got != (api.Bit{V: 2}) {
			t.Errorf("Read(%d): %v", n, got)
		}
	}
}

// P14.2, the chapter's example, and others that are reckoned by hand.
func TestPlay(t *testing.T) {
	c := sized(4, 1)
	wantPlay(t, c, []int{1, 1, 1, 0}, []int{3}, nil, []int{1, 1, 1, -1})
	wantPlay(t, c, []int{1, 1, 1, 0}, nil, nil, []int{1, 1, 1, 1})
	wantPlay(t, c, []int{0, 1, 0, 0}, nil, []int{1}, []int{0, 0, 0, 0})
	// Two against two: all have 2, and keep it strong; then the king tells 2.
	wantPlay(t, c, []int{1, 1, 0, 0}, nil, nil, []int{1, 1, 1, 1})
	// Node 0 is a king who tells nothing, so that all have 0 behind its phase.
	wantPlay(t, c, []int{1, 1, 0, 0}, []int{0}, nil, []int{-1, 0, 0, 0})
	// As above, but it tells them 1.
	wantPlay(t, c, []int{1, 0, 1, 0}, []int{0}, []int{1}, []int{-1, 1, 1, 1})
	wantPlay(t, sized(4, 0), []int{1, 1, 1, 0}, nil, nil, []int{1, 1, 1, 1})
	wantPlay(t, sized(4, 0), []int{0, 1, 0, 0}, nil, nil, []int{1, 1, 1, 1})
}

// P14.2: bits that are missing are 0, those too many are nobody's, and any but 1 is as 0.
func TestPlayBits(t *testing.T) {
	c := sized(7, 2)
	wantPlay(t, c, nil, nil, nil, repeated(0, 7))
	wantPlay(t, c, repeated(1, 4), nil, nil, king.Play(c, []int{1, 1, 1, 1, 0, 0, 0}, nil, nil))
	wantPlay(t, c, repeated(1, 5), nil, nil, repeated(1, 7))
	wantPlay(t, c, append(repeated(0, 7), repeated(1, 20)...), nil, nil, repeated(0, 7))
	wantPlay(t, c, append(repeated(1, 7), repeated(0, 20)...), nil, nil, repeated(1, 7))
	for _, n := range append(wildNumbers(), 2) {
		wantPlay(t, c, repeated(n, 7), nil, nil, repeated(0, 7))
	}
}

// P14.2: numbers of no node are nobody's, and one that is told twice is one; all may be faulty.
func TestPlayFaulty(t *testing.T) {
	c := sized(4, 1)
	ones := repeated(1, 4)
	wantPlay(t, c, ones, wildNumbers(), []int{0}, []int{1, 1, 1, -1})
	wantPlay(t, c, ones, []int{2, 2, 2}, []int{0}, []int{1, 1, -1, 1})
	wantPlay(t, c, ones, []int{4, 13, -1, math.MaxInt, math.MinInt}, []int{0}, ones)
	wantPlay(t, c, ones, []int{3, 2, 1, 0}, []int{0}, repeated(-1, 4))
	wantPlay(t, sized(13, 4), nil, []int{12, 13}, nil, append(repeated(0, 12), -1))
}

// P14.2: of what is not plain nothing.
func TestPlayNotPlain(t *testing.T) {
	for _, c := range wrongConfs() {
		wantPlay(t, c, repeated(1, 13), []int{0, -1, math.MaxInt}, []int{1, 2, 3}, nil)
		wantPlay(t, c, nil, nil, nil, nil)
	}
}

// played is an instance that is told once more, straight from the chapter's words.
func played(c api.Conf, bits, faulty, lies []int) []int {
	now := make([]api.Bit, c.N)
	for i := range now {
		if i < len(bits) && bits[i] == 1 {
			now[i].V = 1
		}
	}
	for x := 0; x < 3*(c.F+1); x++ {
		behind := make([]api.Bit, c.N)
		for i := range behind {
			var votes []int
			for f := range c.N {
				vote := now[f].V
				if slices.Contains(faulty, f) {
					vote = -1
					if len(lies) > 0 {
						vote = lies[((x*c.N+f)*c.N+i)%len(lies)]
					}
				}
				votes = append(votes, vote)
			}
			behind[i] = king.Step(c, x, now[i], votes[x/3], votes...)
		}
		now = behind
	}
	var out []int
	for i, b := range now {
		if slices.Contains(faulty, i) {
			b.V = -1
		}
		out = append(out, b.V)
	}
	return out
}

// mixed is n numbers, votes most of them.
func mixed(source *rand.Rand, n int) []int {
	out := make([]int, n)
	for i := range out {
		out[i] = source.Intn(4) - 1
		if source.Intn(20) == 0 {
			out[i] = wildNumbers()[source.Intn(len(wildNumbers()))]
		}
	}
	return out
}

// P14.2: with lies of any length, and with more faulty nodes than F too, where they change what is answered.
func TestPlayAsTold(t *testing.T) {
	source := rand.New(rand.NewSource(14))
	differ := 0
	for _, c := range confs() {
		for range 300 {
			bits, lies := mixed(source, source.Intn(c.N+3)), mixed(source, source.Intn(3*(c.F+1)*c.N*c.N+20))
			faulty := source.Perm(c.N)[:source.Intn(c.N+1)]
			want := played(c, bits, faulty, lies)
			wantPlay(t, c, bits, faulty, lies, want)
			honest := slices.DeleteFunc(slices.Clone(want), func(v int) bool { return v < 0 })
			if len(slices.Compact(honest)) > 1 {
				differ++
			}
		}
	}
	if differ < 20 {
		t.Error("hardly a run hangs on what is told to whom:", differ)
	}
}

// P14.2: each place of the lies is told by its node, to its node, in its exchange.
func TestLiesPlaces(t *testing.T) {
	c := sized(4, 0)
	for _, faulty := range [][]int{{0, 1}, {1, 2, 3}, {0, 1, 2}, {0, 2, 3}} {
		for place := range 3 * 16 {
			for _, one := range []int{0, 1, 2} {
				for _, other := range []int{0, 1, 2} {
					lies := repeated(other, 3*16)
					lies[place] = one
					wantPlay(t, c, []int{1, 0, 1, 1}, faulty, lies, played(c, []int{1, 0, 1, 1}, faulty, lies))
				}
			}
		}
	}
}

// wantAgreed tests P14.3 of one run.
func wantAgreed(t *testing.T, c api.Conf, bits, faulty, lies []int) {
	t.Helper()
	ends := king.Play(c, bits, faulty, lies)
	end, begun := -1, -1
	for i, v := range ends {
		if slices.Contains(faulty, i) {
			if v != -1 {
				t.Fatalf("a faulty one: %v of %v, %v, %v", ends, bits, faulty, lies)
			}
			continue
		}
		if v != 0 && v != 1 || end >= 0 && v != end {
			t.Fatalf("not one value: %v of %v, %v, %v", ends, bits, faulty, lies)
		}
		end = v
		if begun == -1 {
			begun = bits[i]
		}
		if bits[i] != begun {
			begun = 2
		}
	}
	if begun != 2 && end != begun {
		t.Fatalf("all began with %d: %v of %v, %v, %v", begun, ends, bits, faulty, lies)
	}
}

// P14.3: whatever faulty nodes tell, by chance.
func TestAgreed(t *testing.T) {
	source := rand.New(rand.NewSource(143))
	for _, c := range confs() {
		for range 1500 {
			bits := make([]int, c.N)
			most := source.Intn(c.N + 1)
			for i := range bits {
				if source.Intn(c.N) < most {
					bits[i] = 1
				}
			}
			faulty := source.Perm(c.N)[:source.Intn(c.F+1)]
			if source.Intn(2) == 0 { // the first kings lie
				faulty = []int{0, 1, 2, 3}[:c.F]
			}
			wantAgreed(t, c, bits, faulty, mixed(source, source.Intn(3*(c.F+1)*c.N*c.N+1)))
		}
	}
}

// liesOf are what node liar of four tells the others in a phase, by numbers from 0 to 24^3 - 1: all that makes a difference there.
func liesOf(liar, told int) []int {
	lies := make([]int, 3*16)
	for to := range 4 {
		if to == liar {
			continue
		}
		for x, kinds := range []int{3, 4, 2} {
			lies[(x*4+liar)*4+to] = told % kinds
			told /= kinds
		}
	}
	return lies
}

// P14.3: of four nodes, the first or the second king being faulty, all that it can tell in a phase, and the same in the next one.
func TestAgreedWhateverIsTold(t *testing.T) {
	c := sized(4, 1)
	for liar := range 2 {
		for told := range 24 * 24 * 24 {
			lies := liesOf(liar, told)
			for begun := range 8 {
				bits := []int{begun & 1, begun >> 1 & 1, begun >> 2}
				wantAgreed(t, c, slices.Insert(bits, liar, 0), []int{liar}, lies)
			}
		}
	}
}

// Rules 4 and 5: no list that is handed in is changed or shared.
func TestListsAreOwn(t *testing.T) {
	c := sized(4, 1)
	begun, faulty, lies, votes := []int{1, 7, 1, -1}, []int{3, 9}, []int{1, 0, 2, 5}, []int{1, 1, 7, 0}
	ends := king.Play(c, begun[:2], faulty[:1], lies[:3])
	for x := range 3 {
		king.Step(c, x, api.Bit{V: 9, Strong: true}, 1, votes...)
	}
	again := slices.Clone(ends)
	clear(ends)
	_ = append(ends, 5, 5, 5)
	if !slices.Equal(begun, []int{1, 7, 1, -1}) || !slices.Equal(faulty, []int{3, 9}) || !slices.Equal(lies, []int{1, 0, 2, 5}) || !slices.Equal(votes, []int{1, 1, 7, 0}) || !slices.Equal(c.Table, []int{0, 1, 2, 3}) {
		t.Error("changed:", begun, faulty, lies, votes, c.Table)
	}
	wantPlay(t, c, begun[:2], faulty[:1], lies[:3], again)
}
