package status_test

import (
	"math"
	"math/rand"
	"reflect"
	"slices"
	"testing"

	"bellwether/api"
	"bellwether/gate"
	"bellwether/ring"
	"bellwether/roster"
	"bellwether/samples"
	"bellwether/slot"
	"bellwether/status"
)

// clocks is a memory that was regular so often, with these clocks.
func clocks(regular, clock, anchor int) api.Mem {
	return api.Mem{Regular: regular, Clock: clock, Anchor: anchor}
}

// confs are plain configurations, right ones and others.
func confs() []api.Conf {
	out := append(samples.Confs(), samples.Small())
	return append(out, samples.Rights(rand.New(rand.NewSource(271)).Intn, 40)...)
}

func wantSlot(t *testing.T, c api.Conf, m api.Mem, want int) {
	t.Helper()
	if got := status.Slot(c, m); got != want {
		t.Errorf("Slot(%v, clock %d, anchor %d, regular %d): %d, not %d", c, m.Clock, m.Anchor, m.Regular, got, want)
	}
}

func wantWord(t *testing.T, regular int, want string) {
	t.Helper()
	for _, m := range []api.Mem{{Regular: regular}, {Regular: regular, Clock: 100, Since: 3, Age: 2, Number: 1, Members: "1111", Out: "near"}} {
		if got := status.Word(m); got != want {
			t.Errorf("Word(regular %d): %q, not %q", regular, got, want)
		}
	}
}

// wantReport takes a list without elements for one that is nil.
func wantReport(t *testing.T, got, want api.Report) {
	t.Helper()
	if len(got.Got) == 0 {
		got.Got = nil
	}
	if len(want.Got) == 0 {
		want.Got = nil
	}
	if !reflect.DeepEqual(got, want) {
		t.Errorf("Report: %+v, not %+v", got, want)
	}
}

// P27.1: the chapter's example, and others by hand.
func TestSlotExamples(t *testing.T) {
	c := samples.Small()
	wantSlot(t, c, clocks(2, 100, 0), 0)
	wantSlot(t, c, clocks(1, 100, 0), -1)
	wantSlot(t, c, clocks(0, 100, 0), -1)
	wantSlot(t, c, clocks(-1, 100, 0), -1)
	wantSlot(t, c, clocks(3, 100, 0), 0)
	wantSlot(t, c, clocks(math.MaxInt, 100, 0), 0)
	wantSlot(t, c, clocks(math.MinInt, 100, 0), -1)
	wantSlot(t, c, clocks(2, 63, 0), -1)
	wantSlot(t, c, clocks(2, 64, 0), 0)
	wantSlot(t, c, clocks(2, 253, 0), 0)
	wantSlot(t, c, clocks(2, 254, 0), 1)
	wantSlot(t, c, clocks(2, 823, 0), 3)
	wantSlot(t, c, clocks(2, 824, 0), -1)
	wantSlot(t, c, clocks(2, 0, 0), -1)
	wantSlot(t, c, clocks(2, 100, 100), -1)
	wantSlot(t, c, clocks(2, 90, 65372), 1)
	wantSlot(t, c, clocks(2, 100-65536, 65536), 0)
	wantSlot(t, c, clocks(2, 0, 100), -1)
	wantSlot(t, c, clocks(2, 0, -100), 0)
}

// slotAsTold is Slot of a plain configuration once more, straight from the chapters' words.
func slotAsTold(c api.Conf, m api.Mem) int {
	elapsed := ((m.Clock-m.Anchor)%65536 + 65536) % 65536
	for k := range c.Table {
		if begin := c.Offset + k*c.Slot; m.Regular >= 2 && elapsed >= begin && elapsed < begin+c.Slot {
			return k
		}
	}
	return -1
}

// P27.1: wherever clocks stand, and of clocks of any kind too.
func TestSlotAsTold(t *testing.T) {
	source := rand.New(rand.NewSource(272))
	told := 0
	for _, c := range confs() {
		for range 200 {
			anchor := source.Intn(3*api.Wrap) - api.Wrap
			m := clocks(source.Intn(4), anchor+source.Intn(c.Offset+(len(c.Table)+1)*c.Slot), anchor)
			want := slotAsTold(c, m)
			wantSlot(t, c, m, want)
			if want >= 0 {
				told++
			}
			some := samples.Memory(c, source.Intn)
			if gate.Sync(some) {
				wantSlot(t, c, some, slot.Now(c, some.Clock, some.Anchor))
			} else {
				wantSlot(t, c, some, -1)
			}
		}
	}
	if told < 2000 {
		t.Errorf("only %d were in a slot", told)
	}
}

// P27.1, P8: clocks of any kind.
func TestSlotOfWildClocks(t *testing.T) {
	c := samples.Small()
	for _, anchor := range samples.Wild() {
		for elapsed, want := range map[int]int{0: -1, 64: 0, 300: 1, 823: 3, 900: -1, 65535: -1} {
			wantSlot(t, c, clocks(2, ring.Add(anchor, elapsed), anchor), want)
			wantSlot(t, c, clocks(1, ring.Add(anchor, elapsed), anchor), -1)
		}
		for _, clock := range samples.Wild() {
			wantSlot(t, c, clocks(2, clock, anchor), slot.Now(c, clock, anchor))
		}
	}
}

// P27.1: of any number of regular cycles; nothing else of a memory is asked.
func TestWord(t *testing.T) {
	for regular, want := range map[int]string{math.MinInt: "lost", -2: "lost", -1: "lost", 0: "lost", 1: "near", 2: "sync", 3: "sync", 255: "sync", 1 << 32: "sync", 1<<32 + 1: "sync", math.MaxInt: "sync"} {
		wantWord(t, regular, want)
	}
}

// P27.2: by hand.
func TestReportExamples(t *testing.T) {
	c := samples.Small()
	m := api.Mem{Clock: 300, Regular: 2, Number: 7, Members: "11x1", Seen: "0010", Heard: "0100"}
	a, b := api.Deliver{From: 1, Slot: 1, Cycle: 7, Text: "a"}, api.Deliver{From: 3, Slot: 3, Cycle: 7}
	wantReport(t, status.Report(c, m, true, 3, a, b), api.Report{Pulse: true, Sync: true, Number: 7, Slot: 1, Members: "1101", Sent: 3, Got: []api.Deliver{a, b}})
	wantReport(t, status.Report(c, m, false, 0, b, a, a), api.Report{Sync: true, Number: 7, Slot: 1, Members: "1101", Got: []api.Deliver{b, a, a}})
	wantReport(t, status.Report(c, m, false, 0), api.Report{Sync: true, Number: 7, Slot: 1, Members: "1101"})
	wantReport(t, status.Report(c, m, false, 0, nil...), api.Report{Sync: true, Number: 7, Slot: 1, Members: "1101"})
	m.Regular = 1
	wantReport(t, status.Report(c, m, true, 4, a), api.Report{Pulse: true, Number: 7, Slot: -1, Members: "1101", Sent: 4, Got: []api.Deliver{a}})
	wantReport(t, status.Report(c, api.Mem{}, false, 0), api.Report{Slot: -1, Members: "0000"})
}

// P27.2: what is handed in is told as it is, but that members are a row of N marks.
func TestReportAsTold(t *testing.T) {
	source := rand.New(rand.NewSource(273))
	for _, c := range confs() {
		for range 40 {
			m := samples.Memory(c, source.Intn)
			sent, pulse := source.Intn(40)-2, source.Intn(2) == 0
			got := make([]api.Deliver, source.Intn(40))
			for i := range got {
				got[i] = api.Deliver{From: source.Intn(14), Slot: source.Intn(33), Cycle: source.Intn(250), Text: samples.Text(source.Intn, 3, "ab")}
			}
			want := api.Report{Pulse: pulse, Sync: m.Regular >= 2, Number: m.Number, Slot: status.Slot(c, m), Members: roster.Mark(c, m.Members), Sent: sent, Got: slices.Clone(got)}
			wantReport(t, status.Report(c, m, pulse, sent, got...), want)
		}
	}
}

// P27.2, P8: numbers and rows of any kind.
func TestReportOfWildNumbers(t *testing.T) {
	for _, c := range []api.Conf{samples.Small(), samples.Sized(13, 4, 4)} {
		for _, n := range samples.Wild() {
			got := api.Deliver{From: n, Slot: n, Cycle: n, Text: "\xff"}
			wantReport(t, status.Report(c, api.Mem{Number: n}, false, n, got), api.Report{Number: n, Slot: -1, Members: roster.Blank(c), Sent: n, Got: []api.Deliver{got}})
		}
		for _, members := range samples.Marks() {
			wantReport(t, status.Report(c, api.Mem{Members: members}, true, 0), api.Report{Pulse: true, Slot: -1, Members: roster.Mark(c, members)})
		}
	}
}

// P27.1, P27.2, P8: of what is not plain.
func TestNotPlain(t *testing.T) {
	source := rand.New(rand.NewSource(274))
	for _, c := range samples.Wrong() {
		for _, m := range []api.Mem{{}, clocks(2, 100, 0), clocks(2, 0, 0), samples.Memory(samples.Small(), source.Intn)} {
			wantSlot(t, c, m, -1)
			wantReport(t, status.Report(c, m, true, 3, api.Deliver{From: 1}, api.Deliver{}), api.Report{Slot: -1})
			wantReport(t, status.Report(c, m, false, 0), api.Report{Slot: -1})
		}
	}
}

// Rules 4 and 5: what is delivered is neither changed, nor kept, nor shared, not even behind its end.
func TestDeliveriesAreOwn(t *testing.T) {
	c, m := samples.Small(), clocks(2, 100, 0)
	room := []api.Deliver{{From: 1, Text: "a"}, {From: 2, Text: "b"}, {From: 3, Text: "behind"}}
	before := slices.Clone(room)
	first := status.Report(c, m, true, 1, room[:2]...)
	_ = append(first.Got, api.Deliver{Text: "x"})
	first.Got[0].Text = "x"
	if !slices.Equal(room, before) {
		t.Errorf("changed: %v", room)
	}
	second := status.Report(c, m, true, 1, room[:2]...)
	none := status.Report(c, m, true, 1, room[:0]...)
	_ = append(none.Got, api.Deliver{Text: "x"})
	clear(room)
	if !slices.Equal(second.Got, before[:2]) {
		t.Errorf("kept: %v", second.Got)
	}
	if room[0] != (api.Deliver{}) {
		t.Errorf("shared: %v", room)
	}
}

// P27.3: wherever clocks stand at the pulse, and however they go within drift.
func TestAllTellTheSameSlot(t *testing.T) {
	source := rand.New(rand.NewSource(275))
	clear, told := 0, 0
	for _, c := range append(samples.Rights(source.Intn, 250), samples.Small()) {
		nodes := samples.Clocks(c, source.Intn)
		for ticks := range c.Period {
			if !slot.Clear(c, ticks) {
				continue
			}
			clear++
			want := slot.Nominal(c, ticks)
			if want >= 0 {
				told++
			}
			for _, clock := range nodes {
				anchor := source.Intn(api.Wrap)
				m := samples.Memory(c, source.Intn)
				m.Clock, m.Anchor, m.Regular = ring.Add(anchor, clock[ticks]), anchor, 2
				wantSlot(t, c, m, want)
				m.Regular = source.Intn(2)
				wantSlot(t, c, m, -1)
			}
		}
	}
	if clear < 10000 || told < 5000 {
		t.Errorf("only %d ticks were clear, %d of them in a slot", clear, told)
	}
}
