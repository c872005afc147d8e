package slot_test

import (
	"math"
	"math/rand"
	"slices"
	"testing"

	"bellwether/api"
	"bellwether/bound"
	"bellwether/conf"
	"bellwether/ring"
	"bellwether/samples"
	"bellwether/sched"
	"bellwether/slot"
)

// changed is the small configuration, with something changed.
func changed(change func(c *api.Conf)) api.Conf {
	c := samples.Small()
	change(&c)
	return c
}

// loose has a guard of more units than its slots have: windows that have one another's numbers, some of them below 0.
func loose() api.Conf {
	return changed(func(c *api.Conf) { c.Offset, c.Slot, c.Table = 0, 40, []int{3, 2, 1, 0, 3, 2} })
}

// confs are plain configurations, right ones and others, with the least and the greatest numbers that there may be.
func confs() []api.Conf {
	out := []api.Conf{
		samples.Small(), loose(),
		changed(func(c *api.Conf) { c.Offset, c.Slot = 0, 1 }),
		changed(func(c *api.Conf) { c.Offset, c.Slot, c.Table = 30000, 30000, slices.Repeat(c.Table, api.MaxSlots/4) }),
		changed(func(c *api.Conf) { c.Rate, c.Drift, c.Offset, c.Slot = 1, 0, 3, 5 }),
		changed(func(c *api.Conf) { c.Drift = 63 }),
		changed(func(c *api.Conf) { c.Drift, c.Slot = 0, 191 }),
		changed(func(c *api.Conf) { c.D, c.Period, c.Slot = 4, 400, 1001 }),
	}
	return append(out, samples.Rights(rand.New(rand.NewSource(221)).Intn, 60)...)
}

// wild are the least and the greatest numbers, and some between that are neither ticks nor slots.
func wild() []int {
	out := []int{-1 << 33, -1 << 32, -1 << 31, -1 << 17, 1 << 31, 1 << 32, 1 << 33}
	for n := range 100 {
		out = append(out, math.MinInt+n, math.MaxInt-n, math.MinInt/64+n, math.MaxInt/64-n)
	}
	return out
}

// middle is a slot's middle, straight from the document's words.
func middle(c api.Conf, k int) int {
	return c.Offset + k*c.Slot + c.Slot/2
}

// guard is how many units clocks may be apart, straight from the document's words.
func guard(c api.Conf) int {
	apart := float64(2*c.Drift*middle(c, len(c.Table)-1)) / float64(c.Rate-c.Drift)
	return int(math.Ceil(apart)) + c.Rate + (c.D+1)*c.Drift
}

func wantElapsed(t *testing.T, clock, anchor, want int) {
	t.Helper()
	if got := slot.Elapsed(clock, anchor); got != want {
		t.Errorf("Elapsed(%d, %d): %d, not %d", clock, anchor, got, want)
	}
}

func wantNow(t *testing.T, c api.Conf, clock, anchor, want int) {
	t.Helper()
	if got := slot.Now(c, clock, anchor); got != want {
		t.Errorf("%v: Now(%d, %d): %d, not %d", c, clock, anchor, got, want)
	}
}

func wantNominal(t *testing.T, c api.Conf, ticks, want int) {
	t.Helper()
	if got := slot.Nominal(c, ticks); got != want {
		t.Errorf("%v: Nominal(%d): %d, not %d", c, ticks, got, want)
	}
}

func wantClear(t *testing.T, c api.Conf, ticks int, want bool) {
	t.Helper()
	if got := slot.Clear(c, ticks); got != want {
		t.Errorf("%v: Clear(%d): %t", c, ticks, got)
	}
}

func wantWindow(t *testing.T, c api.Conf, k, from, to int) {
	t.Helper()
	if a, b := slot.Window(c, k); a != from || b != to {
		t.Errorf("%v: Window(%d): %d to %d, not %d to %d", c, k, a, b, from, to)
	}
}

func wantHit(t *testing.T, c api.Conf, elapsed, want int) {
	t.Helper()
	if got := slot.Hit(c, elapsed); got != want {
		t.Errorf("%v: Hit(%d): %d, not %d", c, elapsed, got, want)
	}
}

// P22.1
func TestElapsed(t *testing.T) {
	for _, x := range [][3]int{
		{0, 0, 0}, {9, 5, 4}, {3, 65530, 9}, {65530, 3, 65527}, {0, 65535, 1}, {65535, 0, 65535}, {5, 9, 65532}, {40000, 0, 40000},
		{65536, 0, 0}, {70000, 65000, 5000}, {-1, 0, 65535}, {0, -1, 1}, {-65536, 0, 0},
		{math.MaxInt, math.MinInt, 65535}, {math.MinInt, math.MaxInt, 1}, {math.MinInt, 0, 0}, {0, math.MaxInt, 1},
	} {
		wantElapsed(t, x[0], x[1], x[2])
	}
	for _, clock := range append(wild(), -1, 0, 1, 32767, 32768, 65535, 65536) {
		for _, anchor := range append(wild(), -1, 0, 1, 32767, 32768, 65535, 65536) {
			wantElapsed(t, clock, anchor, ring.Diff(clock, anchor))
		}
	}
}

// P22.1, reckoned by hand: slots are from 64 on, 254, 444, 634, and end ahead of 824.
func TestNowExamples(t *testing.T) {
	c := samples.Small()
	for _, x := range [][3]int{
		{63, 0, -1}, {64, 0, 0}, {253, 0, 0}, {254, 0, 1}, {823, 0, 3}, {824, 0, -1},
		{57, 65530, -1}, {58, 65530, 0}, {247, 65530, 0}, {248, 65530, 1}, {0, 65000, 2}, {0, 64901, 3}, {0, 64713, 3}, {0, 64712, -1},
		{0, 64, -1}, {0, 1, -1}, {1000, 900, 0}, {65536 + 64, 0, 0}, {64, 65536, 0}, {64 - 65536, -65536, 0}, {math.MaxInt, -100, 0}, {math.MinInt + 300, math.MinInt, 1},
	} {
		wantNow(t, c, x[0], x[1], x[2])
	}
}

// P22.1: the slot of as many units as went by, wherever the clock stood.
func TestNowFromAnywhere(t *testing.T) {
	for _, c := range confs() {
		for _, anchor := range []int{0, 1, 777, 32768, 65000, 65535, 65536, -1, math.MinInt, math.MaxInt} {
			for elapsed := 0; elapsed < api.Wrap; elapsed += 61 {
				wantNow(t, c, ring.Add(anchor, elapsed), anchor, sched.Slot(c, elapsed))
			}
		}
	}
}

// P22.1, reckoned by hand: 64 units a tick.
func TestNominalExamples(t *testing.T) {
	for ticks, want := range map[int]int{-1: -1, 0: -1, 1: 0, 3: 0, 4: 1, 6: 1, 7: 2, 9: 2, 10: 3, 12: 3, 13: -1, 20: -1, 2000: -1, 2001: -1} {
		wantNominal(t, samples.Small(), ticks, want)
	}
	far := changed(func(c *api.Conf) { c.Offset, c.Slot = 30000, 30000 }) // the last slot is from 120000, just at tick 1875, to 150000, behind tick 2343
	for ticks, want := range map[int]int{468: -1, 469: 0, 937: 0, 938: 1, 1874: 2, 1875: 3, 1999: 3, 2000: 3, 2001: -1, 2002: -1, 2343: -1} {
		wantNominal(t, far, ticks, want)
	}
}

// P22.1: of all ticks that there may be, and of others.
func TestNominalAsTold(t *testing.T) {
	for _, c := range confs() {
		for ticks := range api.MaxTicks + 1 {
			wantNominal(t, c, ticks, sched.Slot(c, ticks*c.Rate))
		}
		for _, ticks := range append(wild(), -2, -1, 2001, 2002, 4000) {
			wantNominal(t, c, ticks, -1)
		}
	}
}

// P22.1, reckoned by hand: ends of slots are at 64, 254, 444, 634 and 824; tick 4 is at 256, 4 units more or less.
func TestClearExamples(t *testing.T) {
	c := samples.Small()
	for ticks, want := range map[int]bool{
		-1: false, 0: true, 1: false, 2: true, 3: true, 4: false, 5: true, 6: true, 7: false, 8: true, 9: true, 10: false, 11: true, 12: true, 13: false, 14: true, 20: true,
		2000: true, 2001: false,
	} {
		wantClear(t, c, ticks, want)
	}
	for offset, want := range map[int]bool{251: true, 252: false, 256: false, 260: false, 261: true} {
		wantClear(t, changed(func(c *api.Conf) { c.Offset = offset }), 4, want)
	}
	// The end of the last slot is asked too: at 824 with four of 190, at 828 with an offset of 68; tick 13 is at 832, 13 more or less.
	for offset, want := range map[int]bool{58: true, 59: false, 72: false, 85: false, 86: true} {
		wantClear(t, changed(func(c *api.Conf) { c.Offset = offset }), 13, want)
	}
}

// P22.1: without drift all but the ends themselves are clear; at the pulse all are alike, but a slot may begin there.
func TestClearAtTheEnds(t *testing.T) {
	still := changed(func(c *api.Conf) { c.Drift, c.Offset, c.Slot = 0, 128, 192 }) // ends at ticks 2, 5, 8, 11, 14
	for ticks := range 30 {
		wantClear(t, still, ticks, ticks < 2 || ticks > 14 || ticks%3 != 2)
	}
	wantClear(t, changed(func(c *api.Conf) { c.Offset = 0 }), 0, false)
	wantClear(t, changed(func(c *api.Conf) { c.Offset = 1 }), 0, true)
}

// clearAsTold is Clear once more, straight from the chapter's words.
func clearAsTold(c api.Conf, ticks int) bool {
	for k := range len(c.Table) + 1 { // the end of the last one is where one more would begin
		off := math.Abs(float64(c.Offset + k*c.Slot - ticks*c.Rate))
		if off <= float64(ticks*c.Drift) {
			return false
		}
	}
	return true
}

// P22.1: of all ticks that there may be, and of others.
func TestClearAsTold(t *testing.T) {
	for _, c := range confs() {
		for ticks := range api.MaxTicks + 1 {
			wantClear(t, c, ticks, clearAsTold(c, ticks))
		}
		for _, ticks := range append(wild(), -2, -1, 2001, 2002, 4000) {
			wantClear(t, c, ticks, false)
		}
	}
}

// P22.2, reckoned by hand: the guard is 90, the first middle 159, and a tick later 223.
func TestWindowExamples(t *testing.T) {
	c := samples.Small()
	wantWindow(t, c, 0, 133, 313)
	wantWindow(t, c, 1, 323, 503)
	wantWindow(t, c, 2, 513, 693)
	wantWindow(t, c, 3, 703, 883)
	slow := changed(func(c *api.Conf) { c.D, c.Period = 4, 400 }) // the guard is 93, four ticks are 256
	wantWindow(t, slow, 0, 159+256-93, 159+256+93)
	still := changed(func(c *api.Conf) { c.Drift, c.Slot = 0, 191 }) // the guard is 64, the last middle 732
	wantWindow(t, still, 3, 732, 860)
	wild := changed(func(c *api.Conf) { c.Drift = 63 }) // the guard is 2 * 63 * 729 + 64 + 126 = 92044
	wantWindow(t, wild, 0, 223-92044, 223+92044)
}

// P22.2: each slot's; 0 and 0 where there is no such slot.
func TestWindowAsTold(t *testing.T) {
	for _, c := range confs() {
		for k := range c.Table {
			heard := middle(c, k) + c.D*c.Rate
			wantWindow(t, c, k, heard-guard(c), heard+guard(c))
		}
		for _, k := range append(wild(), -2, -1, len(c.Table), len(c.Table)+1) {
			wantWindow(t, c, k, 0, 0)
		}
	}
}

// P22.2, reckoned by hand: both ends are in.
func TestHitExamples(t *testing.T) {
	for elapsed, want := range map[int]int{-1: -1, 0: -1, 132: -1, 133: 0, 223: 0, 313: 0, 314: -1, 322: -1, 323: 1, 503: 1, 504: -1, 513: 2, 693: 2, 694: -1, 702: -1, 703: 3, 883: 3, 884: -1, 65535: -1} {
		wantHit(t, samples.Small(), elapsed, want)
	}
}

// P22.2: of several windows that have it the first one's slot; windows may begin below 0.
func TestHitIsTheFirst(t *testing.T) {
	c := loose() // the last middle is 220, the guard 7 + 64 + 2 = 73, and the windows from 11 to 157, from 51 to 197 and so on
	for elapsed, want := range map[int]int{10: -1, 11: 0, 51: 0, 157: 0, 158: 1, 197: 1, 198: 2, 237: 2, 238: 3, 277: 3, 317: 4, 318: 5, 357: 5, 358: -1} {
		wantHit(t, c, elapsed, want)
	}
	below := changed(func(c *api.Conf) { c.Drift = 63 })
	for elapsed, want := range map[int]int{223 - 92044 - 1: -1, 223 - 92044: 0, -1: 0, 0: 0, 223 + 92044: 0, 223 + 92045: 1, 413 + 92044: 1, 793 + 92044: 3, 793 + 92045: -1} {
		wantHit(t, below, elapsed, want)
	}
}

// P22.2: about both ends of each window, and the least and the greatest numbers.
func TestHitAsTold(t *testing.T) {
	for _, c := range confs() {
		d, g := c.D*c.Rate, guard(c)
		asked := append(wild(), -1, 0, 1)
		for k := range c.Table {
			for _, at := range []int{middle(c, k) + d - g, middle(c, k) + d, middle(c, k) + d + g} {
				asked = append(asked, at-1, at, at+1)
			}
		}
		for _, elapsed := range asked {
			want := -1
			for k := len(c.Table) - 1; k >= 0; k-- {
				if elapsed >= middle(c, k)+d-g && elapsed <= middle(c, k)+d+g {
					want = k
				}
			}
			wantHit(t, c, elapsed, want)
		}
	}
}

// P22.1, P22.2, P8
func TestNotPlain(t *testing.T) {
	for _, c := range samples.Wrong() {
		if conf.Plain(c) == api.OK {
			t.Fatalf("%v is plain", c)
		}
		for _, n := range append(wild(), -1, 0, 1, 2, 3, 4, 64, 133, 159, 223, 2000, 2001) {
			wantNow(t, c, n, 0, -1)
			wantNow(t, c, 0, n, -1)
			wantNominal(t, c, n, -1)
			wantClear(t, c, n, false)
			wantWindow(t, c, n, 0, 0)
			wantHit(t, c, n, -1)
		}
	}
}

// Rules 4 and 5: the table is not changed, nor kept.
func TestTableIsNotKept(t *testing.T) {
	c := samples.Small()
	ask := func() {
		wantNow(t, c, 64, 0, 0)
		wantNominal(t, c, 4, 1)
		wantClear(t, c, 2, true)
		wantWindow(t, c, 0, 133, 313)
		wantHit(t, c, 323, 1)
	}
	ask()
	if !slices.Equal(c.Table, []int{0, 1, 2, 3}) {
		t.Errorf("the table was changed: %v", c.Table)
	}
	c.Table[0] = 1
	wantHit(t, c, 323, -1)
	wantClear(t, c, 2, false)
	c.Table[0] = 0
	ask()
}

// rights are configurations of clusters that can keep their step.
func rights(t *testing.T, source *rand.Rand) []api.Conf {
	t.Helper()
	out := append(samples.Rights(source.Intn, 250), samples.Small())
	if len(out) < 100 {
		t.Fatalf("only %d configurations are right", len(out))
	}
	return out
}

// P22.3: wherever clocks stand at the pulse, and however they go within drift.
func TestAllTellTheSameSlot(t *testing.T) {
	source := rand.New(rand.NewSource(222))
	clear, told := 0, 0
	for _, c := range rights(t, source) {
		clocks := samples.Clocks(c, source.Intn)
		for ticks := range c.Period {
			if !slot.Clear(c, ticks) {
				continue
			}
			clear++
			want := slot.Nominal(c, ticks)
			if want >= 0 {
				told++
			}
			for _, clock := range clocks {
				for _, anchor := range []int{0, api.Wrap - 1, source.Intn(api.Wrap)} {
					wantNow(t, c, ring.Add(anchor, clock[ticks]), anchor, want)
				}
			}
		}
	}
	if clear < 10000 || told < 5000 {
		t.Errorf("only %d ticks were clear, %d of them in a slot", clear, told)
	}
}

// hits are in which slots' windows a number of units is.
func hits(windows [][2]int, elapsed int) []int {
	var out []int
	for k, w := range windows {
		if w[0] <= elapsed && elapsed <= w[1] {
			out = append(out, k)
		}
	}
	return out
}

// P22.4
func TestHeardInItsWindow(t *testing.T) {
	source := rand.New(rand.NewSource(224))
	for _, c := range rights(t, source) {
		clocks := samples.Clocks(c, source.Intn)
		var windows [][2]int
		for k := range c.Table {
			from, to := slot.Window(c, k)
			windows = append(windows, [2]int{from, to})
		}
		for k := range c.Table {
			for _, sender := range clocks {
				at := slices.IndexFunc(sender, func(units int) bool { return units >= bound.Middle(c, k) }) + c.D
				if at >= c.Period {
					t.Fatalf("%v: slot %d is heard %d ticks behind the pulse", c, k, at)
				}
				for _, other := range clocks {
					if got := hits(windows, other[at]); !slices.Equal(got, []int{k}) {
						t.Fatalf("%v: slot %d is heard at %d, in the windows of %v", c, k, other[at], got)
					}
					wantHit(t, c, other[at], k)
				}
			}
		}
	}
}
