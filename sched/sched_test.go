package sched_test

import (
	"iter"
	"math"
	"math/rand"
	"slices"
	"strings"
	"testing"

	"bellwether/api"
	"bellwether/conf"
	"bellwether/samples"
	"bellwether/sched"
)

// laid is the small configuration with its slots laid otherwise.
func laid(offset, slot int, table ...int) api.Conf {
	c := samples.Small()
	c.Offset, c.Slot, c.Table = offset, slot, table
	return c
}

// narrow has slots that are shorter than a tick, so that several of them may be due at once.
func narrow() api.Conf {
	return laid(5, 10, 0, 1, 0, 2, 0, 3, 0)
}

// confs are plain configurations, right ones and others, with the least and the greatest slots that there may be.
func confs() []api.Conf {
	most := slices.Repeat([]int{3, 0, 2, 1}, api.MaxSlots/4)
	out := []api.Conf{
		samples.Small(), narrow(), laid(0, 1, 0, 1, 2, 3), laid(0, 1, most...), laid(30000, 30000, most...), laid(0, 30000, 3, 2, 1, 0),
		laid(30000, 1, 1, 1, 2, 3, 0), laid(64, 191, 2, 0, 1, 2, 3, 2),
	}
	slow := laid(3, 5, 0, 1, 2, 3, 2, 1, 0)
	slow.Rate, slow.Drift = 1, 0
	loose := laid(7, 40, 0, 1, 2, 3, 3, 3)
	loose.Drift = 63
	out = append(out, slow, loose)
	return append(out, samples.Rights(rand.New(rand.NewSource(211)).Intn, 60)...)
}

// wild are numbers that are no slot, no node, and no units that belong to a slot.
func wild() []int {
	out := []int{-1 << 33, -1 << 32, -1 << 31, 1 << 31, 1 << 32, 1 << 33}
	for n := range 200 {
		out = append(out, math.MinInt+n, -1-n, math.MaxInt-n)
	}
	return append(out, math.MinInt+30000, math.MaxInt-30000)
}

// begin is where slot k begins, straight from the document's words.
func begin(c api.Conf, k int) int {
	return c.Offset + k*c.Slot
}

// end is where the last slot ends.
func end(c api.Conf) int {
	return begin(c, len(c.Table))
}

// near are the numbers of units about each end and each middle of a slot, and about the end of the time in which it is due.
func near(c api.Conf) []int {
	var out []int
	for k := range len(c.Table) + 1 {
		middle := begin(c, k) + c.Slot/2
		for _, at := range []int{begin(c, k), middle, middle + c.Rate, middle + c.Rate + c.Drift} {
			out = append(out, at-2, at-1, at, at+1, at+2)
		}
	}
	return append(out, -1, 0, 1)
}

func wantSlot(t *testing.T, c api.Conf, elapsed, want int) {
	t.Helper()
	if got := sched.Slot(c, elapsed); got != want {
		t.Errorf("%v: Slot(%d): %d, not %d", c, elapsed, got, want)
	}
}

func wantOwner(t *testing.T, c api.Conf, slot, want int) {
	t.Helper()
	if got := sched.Owner(c, slot); got != want {
		t.Errorf("%v: Owner(%d): %d, not %d", c, slot, got, want)
	}
}

func wantOwned(t *testing.T, c api.Conf, node int, want ...int) {
	t.Helper()
	if got := slices.Collect(sched.Owned(c, node)); !slices.Equal(got, want) {
		t.Errorf("%v: Owned(%d): %v, not %v", c, node, got, want)
	}
}

func wantDue(t *testing.T, c api.Conf, node, elapsed int, sent string, want int) {
	t.Helper()
	if got := sched.Due(c, node, elapsed, sent); got != want {
		t.Errorf("%v: Due(%d, %d, %q): %d, not %d", c, node, elapsed, sent, got, want)
	}
}

// P21.1: the chapter's example, and the other slots' ends.
func TestSlotExamples(t *testing.T) {
	for elapsed, want := range map[int]int{-1: -1, 0: -1, 63: -1, 64: 0, 159: 0, 253: 0, 254: 1, 443: 1, 444: 2, 633: 2, 634: 3, 823: 3, 824: -1, 1013: -1, 1014: -1, 65535: -1} {
		wantSlot(t, samples.Small(), elapsed, want)
	}
	for elapsed, want := range map[int]int{-1: -1, 0: 0, 1: 1, 2: 2, 3: 3, 4: -1} {
		wantSlot(t, laid(0, 1, 0, 1, 2, 3), elapsed, want)
	}
	for elapsed, want := range map[int]int{29999: -1, 30000: 0, 59999: 0, 60000: 1, 149999: 3, 150000: -1} {
		wantSlot(t, laid(30000, 30000, 3, 2, 1, 0), elapsed, want)
	}
}

// P21.1, P21.3: just those units that the document's words say belong to a slot, and to no other one.
func TestSlotOfUnits(t *testing.T) {
	for _, c := range confs() {
		for _, elapsed := range near(c) {
			want, count := -1, 0
			for k := range c.Table {
				if elapsed >= begin(c, k) && elapsed < begin(c, k)+c.Slot {
					want, count = k, count+1
				}
			}
			if count > 1 {
				t.Errorf("%v: %d belongs to %d slots", c, elapsed, count)
			}
			wantSlot(t, c, elapsed, want)
		}
	}
}

// P21.1: of all units, those of each slot follow one another, and each slot has as many.
func TestSlotsHaveTheirUnits(t *testing.T) {
	for _, c := range []api.Conf{samples.Small(), narrow(), laid(0, 1, 0, 1, 2, 3), laid(64, 191, 2, 0, 1, 2, 3, 2)} {
		units := make([]int, len(c.Table))
		last := -1
		for elapsed := -300; elapsed < end(c)+300; elapsed++ {
			if k := sched.Slot(c, elapsed); k >= 0 {
				if k < last || k >= len(units) {
					t.Fatalf("%v: slot %d at %d, behind slot %d", c, k, elapsed, last)
				}
				units[k]++
				last = k
			}
		}
		if !slices.Equal(units, slices.Repeat([]int{c.Slot}, len(c.Table))) {
			t.Errorf("%v: slots of %v units", c, units)
		}
	}
}

// P21.1, P8: the least and the greatest numbers.
func TestSlotOfWildUnits(t *testing.T) {
	for _, c := range confs() {
		for _, elapsed := range wild() {
			wantSlot(t, c, elapsed, -1)
		}
	}
}

// P21.1
func TestOwner(t *testing.T) {
	for slot, want := range map[int]int{-2: -1, -1: -1, 0: 2, 1: 0, 2: 1, 3: 2, 4: 3, 5: 2, 6: -1, 31: -1, 32: -1} {
		wantOwner(t, laid(64, 191, 2, 0, 1, 2, 3, 2), slot, want)
	}
	for _, c := range confs() {
		for slot, owner := range c.Table {
			wantOwner(t, c, slot, owner)
		}
		for _, slot := range append(wild(), len(c.Table), len(c.Table)+1) {
			wantOwner(t, c, slot, -1)
		}
	}
}

// P21.1
func TestOwned(t *testing.T) {
	c := laid(64, 191, 2, 0, 1, 2, 3, 2)
	wantOwned(t, c, 0, 1)
	wantOwned(t, c, 1, 2)
	wantOwned(t, c, 2, 0, 3, 5)
	wantOwned(t, c, 3, 4)
	wantOwned(t, c, 4)
	for _, c := range confs() {
		want := make([][]int, c.N)
		for slot, owner := range c.Table {
			want[owner] = append(want[owner], slot)
		}
		for node := range c.N {
			wantOwned(t, c, node, want[node]...)
		}
		for _, node := range append(wild(), c.N, c.N+1) {
			wantOwned(t, c, node)
		}
	}
}

// upTo is the first slots of an iterator, at most so many.
func upTo(slots iter.Seq[int], most int) []int {
	var out []int
	for slot := range slots {
		out = append(out, slot)
		if len(out) == most {
			break
		}
	}
	return out
}

// P21.1: nothing comes once who goes through has stopped; one iterator goes from the beginning each time, also within itself.
func TestOwnedStopsAndBegins(t *testing.T) {
	slots := sched.Owned(laid(64, 191, 2, 0, 1, 2, 3, 2), 2)
	for most := 1; most <= 3; most++ {
		if got := upTo(slots, most); !slices.Equal(got, []int{0, 3, 5}[:most]) {
			t.Errorf("%d of them: %v", most, got)
		}
	}
	var pairs []int
	for a := range slots {
		for b := range slots {
			pairs = append(pairs, 10*a+b)
		}
	}
	if !slices.Equal(pairs, []int{0, 3, 5, 30, 33, 35, 50, 53, 55}) {
		t.Errorf("within itself: %v", pairs)
	}
}

// Rules 4 and 5: the table is not changed, and writing into it later changes nothing.
func TestTableIsNotKept(t *testing.T) {
	c := samples.Small()
	slots := sched.Owned(c, 1)
	c.Table[0] = 1
	if got := slices.Collect(slots); !slices.Equal(got, []int{1}) {
		t.Errorf("of a table that was written into: %v", got)
	}
	slots = sched.Owned(c, 1) // nobody but 1, 2 and 3 has one: not plain
	c.Table[0] = 0
	if got := slices.Collect(slots); len(got) > 0 {
		t.Errorf("of a table that was wrong: %v", got)
	}
	wantSlot(t, c, 64, 0)
	wantOwner(t, c, 1, 1)
	wantDue(t, c, 1, 349, "", 1)
	if !slices.Equal(c.Table, []int{0, 1, 2, 3}) {
		t.Errorf("the table was changed: %v", c.Table)
	}
}

// P21.2, reckoned by hand: a middle is at 159, and Rate and Drift are 65.
func TestDueExamples(t *testing.T) {
	for _, x := range []struct {
		node, elapsed int
		sent          string
		want          int
	}{
		{0, 158, "", -1},
		{0, 159, "", 0},
		{0, 200, "", 0},
		{0, 223, "", 0},
		{0, 224, "", -1},
		{0, 349, "", -1},
		{1, 159, "", -1},
		{1, 348, "", -1},
		{1, 349, "", 1},
		{1, 413, "", 1},
		{1, 414, "", -1},
		{2, 539, "", 2},
		{3, 728, "", -1},
		{3, 729, "", 3},
		{3, 793, "", 3},
		{3, 794, "", -1},
		{4, 159, "", -1},
		{-1, 159, "", -1},
		{-1, 0, "", -1},
		{0, 159, "1", -1},
		{0, 159, "1111", -1},
		{0, 159, "0111", 0},
		{0, 159, "x", 0},
		{0, 159, "2", 0},
		{0, 159, "\x01", 0},
		{0, 159, "é1", 0},
		{3, 729, "111", 3},
		{3, 729, "1110", 3},
		{3, 729, "0001", -1},
		{3, 729, "1111", -1},
		{3, 729, "é11", -1}, // places are counted by bytes
		{3, 729, strings.Repeat("1", 5000), -1},
	} {
		wantDue(t, samples.Small(), x.node, x.elapsed, x.sent, x.want)
	}
}

// P21.2: of several that are due the first one is, that was not sent in.
func TestDueIsTheFirst(t *testing.T) {
	c := narrow() // node 0 has the middles 10, 30, 50 and 70
	for _, x := range []struct {
		elapsed int
		sent    string
		want    int
	}{
		{9, "", -1}, {10, "", 0}, {70, "", 0}, {74, "", 0}, {75, "", 2}, {94, "", 2}, {95, "", 4}, {114, "", 4}, {115, "", 6}, {134, "", 6}, {135, "", -1},
		{70, "1", 2}, {70, "101", 4}, {70, "10101", 6}, {70, "1010101", -1}, {70, "0010101", 0}, {70, "1000101", 2}, {70, "1010001", 4},
		{69, "10101", -1}, {70, "0101010", 0}, {100, "0000100", 6},
	} {
		wantDue(t, c, 0, x.elapsed, x.sent, x.want)
	}
}

// dueAsTold is Due once more, straight from the chapter's words.
func dueAsTold(c api.Conf, node, elapsed int, sent string) int {
	for k, owner := range c.Table {
		middle := c.Offset + k*c.Slot + c.Slot/2
		over := elapsed >= middle
		longOver := elapsed >= middle+c.Rate+c.Drift
		marked := k < len(sent) && sent[k] == '1'
		if owner == node && !marked && over && !longOver {
			return k
		}
	}
	return -1
}

// P21.2: of all nodes, units about each slot's, and marks.
func TestDueAsTold(t *testing.T) {
	source := rand.New(rand.NewSource(212))
	due := 0
	for _, c := range confs() {
		for _, elapsed := range near(c) {
			for node := -1; node <= c.N; node++ {
				sent := samples.Text(source.Intn, source.Intn(len(c.Table)+3), "0001")
				want := dueAsTold(c, node, elapsed, sent)
				wantDue(t, c, node, elapsed, sent, want)
				if want >= 0 {
					due++
				}
			}
		}
	}
	if due < 1000 {
		t.Errorf("only %d slots were due", due)
	}
}

// P21.2, P8: the least and the greatest numbers.
func TestDueOfWildNumbers(t *testing.T) {
	for _, c := range confs() {
		for _, n := range wild() {
			wantDue(t, c, 0, n, "", -1)
			wantDue(t, c, n, begin(c, 0)+c.Slot/2, "", -1)
			wantDue(t, c, n, n, "", -1)
		}
	}
}

// P21.1, P21.2, P8: of what is not plain -1, and none.
func TestNotPlain(t *testing.T) {
	for _, c := range samples.Wrong() {
		if conf.Plain(c) == api.OK {
			t.Fatalf("%v is plain", c)
		}
		for _, n := range append(wild(), 0, 1, 2, 3, 4, 64, 159, 349, 729) {
			wantSlot(t, c, n, -1)
			wantOwner(t, c, n, -1)
			wantOwned(t, c, n)
			for node := -1; node < 5; node++ {
				wantDue(t, c, node, n, "", -1)
			}
		}
	}
}

// P21.3
func TestEachHasItsOwn(t *testing.T) {
	for _, c := range confs() {
		owners := make([]int, len(c.Table))
		for node := range c.N {
			count := 0
			for slot := range sched.Owned(c, node) {
				owners[slot]++
				count++
				wantOwner(t, c, slot, node)
			}
			if count == 0 {
				t.Errorf("%v: node %d has no slot", c, node)
			}
		}
		if !slices.Equal(owners, slices.Repeat([]int{1}, len(c.Table))) {
			t.Errorf("%v: slots have %v owners", c, owners)
		}
	}
}

// sends is in which slots a node sends from the pulse to the tick ahead of the next one, in their order, if it sends whenever one is due.
func sends(c api.Conf, node int, clock []int) []int {
	var out []int
	sent := slices.Repeat([]byte{'0'}, len(c.Table))
	for tick := range c.Period {
		if slot := sched.Due(c, node, clock[tick], string(sent)); slot >= 0 {
			sent[slot] = '1'
			out = append(out, slot)
		}
	}
	return out
}

// P21.3: whatever the drift, each of its slots just once, in their order.
func TestSendsInEachSlotOnce(t *testing.T) {
	source := rand.New(rand.NewSource(213))
	right := append(samples.Rights(source.Intn, 300), samples.Small())
	if len(right) < 100 {
		t.Errorf("only %d configurations are right", len(right))
	}
	for _, c := range right {
		for node := range c.N {
			want := slices.Collect(sched.Owned(c, node))
			for i, clock := range samples.Clocks(c, source.Intn) {
				if got := sends(c, node, clock); !slices.Equal(got, want) {
					t.Errorf("%v: node %d with clock %d sends in slots %v, not %v", c, node, i, got, want)
				}
			}
		}
	}
}
