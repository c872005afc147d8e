package accept_test

import (
	"math"
	"math/rand"
	"slices"
	"strings"
	"testing"

	"bellwether/accept"
	"bellwether/api"
	"bellwether/bound"
	"bellwether/conf"
	"bellwether/gate"
	"bellwether/packet"
	"bellwether/ring"
	"bellwether/samples"
)

// loose has a guard of more units than its slots have: at a time several slots' windows are open.
func loose() api.Conf {
	c := samples.Small()
	c.Offset, c.Slot, c.Table = 0, 40, []int{3, 2, 1, 0, 3, 2}
	return c
}

// confs are plain configurations, right ones and others, with the least and the greatest slots that there may be.
func confs() []api.Conf {
	most, far, below := samples.Small(), samples.Small(), samples.Small()
	most.Offset, most.Slot, most.Table = 0, 1, slices.Repeat([]int{3, 0, 2, 1}, api.MaxSlots/4)
	far.Offset, far.Slot = 30000, 9000
	below.Drift = 63 // its windows begin below 0
	out := []api.Conf{samples.Small(), loose(), most, far, below}
	return append(out, samples.Rights(rand.New(rand.NewSource(241)).Intn, 40)...)
}

// ready is the memory of a node that takes a message of node 0 in the small configuration's slot 0.
func ready() api.Mem {
	return api.Mem{Clock: 223, Regular: 2, Number: 7, Heard: "0100", Seen: "0010"}
}

// good is that message.
func good() api.Packet {
	return api.Packet{Votes: "012012", Ex: 3, Vec: "012012012012", Slot: 1, Cycle: 7, Text: "a"}
}

// hearing is a message that came to a node: it, of whom, and the node's memory.
type hearing struct {
	m    api.Mem
	from int
	p    api.Packet
}

// turned is a good message that came to a ready node, with something changed.
func turned(turn func(h *hearing)) hearing {
	h := hearing{ready(), 0, good()}
	turn(&h)
	return h
}

func wantCheck(t *testing.T, c api.Conf, h hearing, want api.Errno) {
	t.Helper()
	if e := accept.Check(c, h.m, h.from, h.p); e != want {
		t.Errorf("%v: Check(%+v, %d, %+v): %d, not %d", c, h.m, h.from, h.p, e, want)
	}
}

// taken is what Take and All answer.
type taken struct {
	heard, seen string
	got         []api.Deliver
	refused     int
}

func (a taken) is(b taken) bool {
	return a.heard == b.heard && a.seen == b.seen && slices.Equal(a.got, b.got) && a.refused == b.refused
}

func wantTake(t *testing.T, c api.Conf, h hearing, heard, seen string, want api.Deliver) {
	t.Helper()
	if a, b, d, e := accept.Take(c, h.m, h.from, h.p); a != heard || b != seen || d != want || e != api.OK {
		t.Errorf("%v: Take(%+v, %d, %+v): %q, %q, %+v, %d, not %q, %q, %+v", c, h.m, h.from, h.p, a, b, d, e, heard, seen, want)
	}
}

// wantRefused is of Check and Take.
func wantRefused(t *testing.T, c api.Conf, h hearing, want api.Errno) {
	t.Helper()
	wantCheck(t, c, h, want)
	if a, b, d, e := accept.Take(c, h.m, h.from, h.p); a != "" || b != "" || d != (api.Deliver{}) || e != want {
		t.Errorf("%v: Take(%+v, %d, %+v): %q, %q, %+v, %d, not nothing and %d", c, h.m, h.from, h.p, a, b, d, e, want)
	}
}

func wantAll(t *testing.T, c api.Conf, m api.Mem, packets []api.Packet, want taken) {
	t.Helper()
	var now taken
	now.heard, now.seen, now.got, now.refused = accept.All(c, m, packets...)
	if !now.is(want) {
		t.Errorf("%v: All(%+v, %+v): %+v, not %+v", c, m, packets, now, want)
	}
}

// P24.1: the chapter's example, and the other slots: the windows are from 133 to 313, from 323 to 503, from 513 to 693 and from 703 to 883.
func TestCheckRight(t *testing.T) {
	c := samples.Small()
	for _, turn := range []func(h *hearing){
		func(h *hearing) {},
		func(h *hearing) { h.m.Clock = 133 },
		func(h *hearing) { h.m.Clock = 313 },
		func(h *hearing) { h.m.Clock, h.m.Anchor = 15, 65328 },
		func(h *hearing) { h.m.Clock, h.m.Anchor = 133-65536, 65536 },
		func(h *hearing) { h.m.Clock, h.m.Anchor = math.MinInt+313, math.MinInt },
		func(h *hearing) { h.m.Regular = math.MaxInt },
		func(h *hearing) { h.p = api.Packet{Slot: 1, Cycle: 7} },
		func(h *hearing) { h.p.Text = "0123456789abcdef" },
		func(h *hearing) { h.p.Text = strings.Repeat("\xff", 16) },
		func(h *hearing) { h.p.Text = strings.Repeat("é", 8) },
		func(h *hearing) { h.m.Heard = "" },
		func(h *hearing) { h.m.Heard = "0111111" },
		func(h *hearing) { h.m.Heard = "x1" },
		func(h *hearing) { h.m.Heard = "\x011" },
		func(h *hearing) { h.m.Seen = "1111" },
		func(h *hearing) { h.m.Number, h.p.Cycle = 0, 0 },
		func(h *hearing) { h.m.Number, h.p.Cycle = -1, -1 },
		func(h *hearing) { h.m.Sent, h.m.Members = "1111", "0000" },
		func(h *hearing) { h.m.Clock, h.from, h.p.Slot, h.m.Heard = 323, 1, 2, "" },
		func(h *hearing) { h.m.Clock, h.from, h.p.Slot = 513, 2, 3 },
		func(h *hearing) { h.m.Clock, h.from, h.p.Slot = 883, 3, 4 },
		func(h *hearing) { h.m.Clock, h.from, h.p.Slot, h.m.Heard = 883, 3, 4, "111é1" },
	} {
		wantCheck(t, c, turned(turn), api.OK)
	}
}

// flaw is what is wrong with a message that came, and the error of it.
type flaw struct {
	e    api.Errno
	turn func(h *hearing)
}

// flaws are in the order of their errors.
func flaws() []flaw {
	return []flaw{
		{api.ErrSlot, func(h *hearing) { h.p.Slot = 5 }},
		{api.ErrMute, func(h *hearing) { h.m.Regular = 1 }},
		{api.ErrOwner, func(h *hearing) { h.from = 1 }},
		{api.ErrLate, func(h *hearing) { h.m.Clock = 314 }},
		{api.ErrWord, func(h *hearing) { h.p.Cycle = 6 }},
		{api.ErrText, func(h *hearing) { h.p.Text = "0123456789abcdefg" }},
		{api.ErrTwice, func(h *hearing) { h.m.Heard = "1000" }},
	}
}

// P24.1, P24.2: where several errors apply, the one that is named first; whatever of them there are.
func TestErrorsInTheirOrder(t *testing.T) {
	all := flaws()
	for some := 1; some < 1<<len(all); some++ {
		h, want := turned(func(h *hearing) {}), api.OK
		for i, f := range all {
			if some>>i&1 == 0 {
				continue
			}
			f.turn(&h)
			if want == api.OK {
				want = f.e
			}
		}
		wantRefused(t, samples.Small(), h, want)
		wantRefused(t, api.Conf{}, h, api.ErrNode)
	}
}

// P24.1, P24.2: conf.Plain's error ahead of all others.
func TestNotPlain(t *testing.T) {
	for _, c := range samples.Wrong() {
		want := conf.Plain(c)
		wantRefused(t, c, turned(func(h *hearing) {}), want)
		for _, f := range flaws() {
			wantRefused(t, c, turned(f.turn), want)
		}
		for _, n := range append(samples.Wild(), 0) {
			wantRefused(t, c, turned(func(h *hearing) { h.p.Slot, h.from, h.m.Clock = n, n, n }), want)
		}
	}
}

// P24.1, P24.2: there is no such slot.
func TestNoSuchSlot(t *testing.T) {
	for _, c := range confs() {
		for _, n := range append(samples.Wild(), 0, len(c.Table)+1, len(c.Table)+2) {
			wantRefused(t, c, turned(func(h *hearing) { h.p.Slot = n }), api.ErrSlot)
			wantRefused(t, c, turned(func(h *hearing) { h.p.Slot, h.from, h.m.Clock = n, -1, 0 }), api.ErrSlot)
		}
	}
}

// P24.1, P24.2: who is not synchronized takes nothing.
func TestMute(t *testing.T) {
	for _, n := range []int{math.MinInt, -65536, -1, 0, 1} {
		wantRefused(t, samples.Small(), turned(func(h *hearing) { h.m.Regular = n }), api.ErrMute)
	}
}

// P24.1, P24.2: each slot has one owner, and no other node, nor what is none, may send in it.
func TestOwner(t *testing.T) {
	for _, c := range confs() {
		for k, owner := range c.Table {
			h := inWindow(c, k)
			for _, from := range append(samples.Wild(), 0, 1, 2, 3, 4, 12, 13) {
				h.from = from
				if from == owner {
					wantCheck(t, c, h, api.OK)
				} else {
					wantRefused(t, c, h, api.ErrOwner)
				}
			}
		}
	}
}

// inWindow is a message in slot k that is taken.
func inWindow(c api.Conf, k int) hearing {
	middle := c.Offset + k*c.Slot + c.Slot/2
	return hearing{api.Mem{Clock: middle + c.D*c.Rate, Regular: 2}, c.Table[k], api.Packet{Slot: k + 1}}
}

// P24.1, P24.2: about both ends of each window, wherever the clock began.
func TestLate(t *testing.T) {
	for _, c := range confs() {
		guard := bound.Guard(c)
		for k := range c.Table {
			h := inWindow(c, k)
			heard := h.m.Clock
			for _, elapsed := range []int{0, 1, heard - guard - 1, heard - guard, heard, heard + guard, heard + guard + 1, 32767, 32768, 65535} {
				if elapsed < 0 || elapsed >= api.Wrap {
					continue
				}
				for _, anchor := range []int{0, 1, 65535, 40000, -1, math.MinInt, math.MaxInt} {
					h.m.Anchor, h.m.Clock = anchor, ring.Add(anchor, elapsed)
					if elapsed >= heard-guard && elapsed <= heard+guard {
						wantCheck(t, c, h, api.OK)
					} else {
						wantRefused(t, c, h, api.ErrLate)
					}
				}
			}
		}
	}
}

// P24.1, P24.2: of no other cycle; numbers are held against each other as they are.
func TestWord(t *testing.T) {
	for _, n := range append(samples.Wild(), 0, 1, 6, 8, 17) {
		wantRefused(t, samples.Small(), turned(func(h *hearing) { h.p.Cycle = n }), api.ErrWord)
		wantRefused(t, samples.Small(), turned(func(h *hearing) { h.m.Number = n }), api.ErrWord)
		wantCheck(t, samples.Small(), turned(func(h *hearing) { h.m.Number, h.p.Cycle = n, n }), api.OK)
	}
}

// P24.1, P24.2: texts are counted by bytes.
func TestText(t *testing.T) {
	for n := range 40 {
		want := api.OK
		if n > 16 {
			want = api.ErrText
		}
		wantCheck(t, samples.Small(), turned(func(h *hearing) { h.p.Text = strings.Repeat("x", n) }), want)
		wantCheck(t, samples.Small(), turned(func(h *hearing) { h.p.Text = strings.Repeat("\x00", n) }), want)
	}
	for _, text := range []string{strings.Repeat("é", 9), strings.Repeat("\xff", 17), strings.Repeat("x", 70000)} {
		wantRefused(t, samples.Small(), turned(func(h *hearing) { h.p.Text = text }), api.ErrText)
	}
}

// P24.1, P24.2: a slot that had a message has no other one, whatever the marks are beside it.
func TestTwice(t *testing.T) {
	for _, heard := range []string{"1", "10", "1111", "1x", "1\xff", "1" + strings.Repeat("é", 90)} {
		wantRefused(t, samples.Small(), turned(func(h *hearing) { h.m.Heard = heard }), api.ErrTwice)
	}
	for _, c := range confs() {
		for k := range c.Table {
			h := inWindow(c, k)
			h.m.Heard = strings.Repeat("1", k) + "0" + strings.Repeat("1", 40)
			wantCheck(t, c, h, api.OK)
			h.m.Heard = strings.Repeat("0", k)
			wantCheck(t, c, h, api.OK)
			h.m.Heard += "1"
			wantRefused(t, c, h, api.ErrTwice)
		}
	}
}

// P24.2: as many digits as slots, and as nodes; what was no mark is none.
func TestTakeExamples(t *testing.T) {
	c := samples.Small()
	a := api.Deliver{From: 0, Slot: 0, Cycle: 7, Text: "a"}
	wantTake(t, c, turned(func(h *hearing) {}), "1100", "1010", a)
	wantTake(t, c, turned(func(h *hearing) { h.m.Heard, h.m.Seen = "", "" }), "1000", "1000", a)
	wantTake(t, c, turned(func(h *hearing) { h.m.Heard, h.m.Seen = "0111111", "111111" }), "1111", "1111", a)
	wantTake(t, c, turned(func(h *hearing) { h.m.Heard, h.m.Seen = "x1x", "2é1" }), "1100", "1001", a)
	wantTake(t, c, turned(func(h *hearing) { h.m.Seen = "1000" }), "1100", "1000", a)
	wantTake(t, c, turned(func(h *hearing) { h.p.Text = "" }), "1100", "1010", api.Deliver{Cycle: 7})
	wantTake(t, c, turned(func(h *hearing) { h.m.Clock, h.from, h.p.Slot = 800, 3, 4 }), "0101", "0011", api.Deliver{From: 3, Slot: 3, Cycle: 7, Text: "a"})
	wide := c // more slots than nodes, of which node 3 owns the first one, and the fifth one
	wide.Table = []int{3, 0, 1, 2, 3, 0}
	h := hearing{api.Mem{Clock: 159 + 4*190 + 64, Regular: 2, Heard: "1"}, 3, api.Packet{Slot: 5, Text: "b"}}
	wantTake(t, wide, h, "100010", "0001", api.Deliver{From: 3, Slot: 4, Text: "b"})
	h.m.Heard = "100010"
	wantRefused(t, wide, h, api.ErrTwice)
}

// checkAsTold is Check once more, straight from the words of the chapters, of a configuration that is plain.
func checkAsTold(c api.Conf, h hearing) api.Errno {
	k := h.p.Slot - 1
	elapsed := ((h.m.Clock-h.m.Anchor)%api.Wrap + api.Wrap) % api.Wrap
	heard := c.Offset + k*c.Slot + c.Slot/2 + c.D*c.Rate
	off := max(elapsed-heard, heard-elapsed)
	switch {
	case h.p.Slot < 1 || h.p.Slot > len(c.Table):
		return api.ErrSlot
	case h.m.Regular < 2:
		return api.ErrMute
	case c.Table[k] != h.from:
		return api.ErrOwner
	case off > bound.Guard(c):
		return api.ErrLate
	case h.p.Cycle != h.m.Number:
		return api.ErrWord
	case len(h.p.Text) > 16:
		return api.ErrText
	case strings.HasPrefix(h.m.Heard[min(k, len(h.m.Heard)):], "1"):
		return api.ErrTwice
	}
	return api.OK
}

// allAsTold is All once more, straight from the chapter's words, of a configuration that is plain.
func allAsTold(c api.Conf, m api.Mem, packets []api.Packet) taken {
	out := taken{heard: m.Heard, seen: m.Seen}
	for i, p := range packets {
		m.Heard = out.heard
		switch {
		case p.Slot == 0:
		case checkAsTold(c, hearing{m, i, p}) != api.OK:
			out.refused++
		default:
			out.heard = withMark(out.heard, len(c.Table), p.Slot-1)
			out.seen = withMark(out.seen, c.N, i)
			out.got = append(out.got, api.Deliver{From: i, Slot: p.Slot - 1, Cycle: p.Cycle, Text: p.Text})
		}
	}
	return out
}

// withMark is n digits: the marks, and one more at that place.
func withMark(marks string, n, at int) string {
	out := ""
	for place := range n {
		if place == at || place < len(marks) && marks[place] == '1' {
			out += "1"
		} else {
			out += "0"
		}
	}
	return out
}

// some is a memory by chance, with its clock where slots' messages are heard, or may not be.
func some(source *rand.Rand, c api.Conf) api.Mem {
	k := source.Intn(len(c.Table))
	heard := c.Offset + k*c.Slot + c.Slot/2 + c.D*c.Rate
	anchor := source.Intn(3*api.Wrap) - api.Wrap
	m := api.Mem{
		Clock:   ring.Add(anchor, heard+source.Intn(3*c.Rate)-c.Rate),
		Anchor:  anchor,
		Number:  source.Intn(c.Mod),
		Regular: 2,
		Heard:   samples.Text(source.Intn, source.Intn(len(c.Table)+3), "0001"),
		Seen:    samples.Text(source.Intn, source.Intn(c.N+3), "0001"),
	}
	if source.Intn(20) == 0 {
		m.Regular = source.Intn(3)
	}
	return m
}

// sent is a packet by chance of that node, most of them with a message in a slot that it owns.
func sent(source *rand.Rand, c api.Conf, m api.Mem, from int) api.Packet {
	p := packet.Blank(c)
	var own []int
	for slot, owner := range c.Table {
		if owner == from {
			own = append(own, slot+1)
		}
	}
	p.Cycle, p.Text = m.Number, samples.Text(source.Intn, source.Intn(6), "ab")
	if len(own) > 0 {
		p.Slot = own[source.Intn(len(own))]
	}
	switch source.Intn(12) {
	case 0:
		p.Slot = source.Intn(len(c.Table)+4) - 1
	case 1:
		p.Cycle += source.Intn(3) - 1
	case 2:
		p.Text = strings.Repeat("x", 16+source.Intn(3))
	case 3:
		p = packet.Blank(c)
	}
	return p
}

// lots calls try with many configurations, memories and packets by chance, of as many nodes as there are, of fewer and of more.
func lots(source *rand.Rand, tries int, try func(c api.Conf, m api.Mem, packets []api.Packet)) {
	for _, c := range confs() {
		for range tries {
			m := some(source, c)
			var packets []api.Packet
			for from := range c.N + source.Intn(5) - 2 {
				packets = append(packets, sent(source, c, m, from))
			}
			try(c, m, packets)
		}
	}
}

// P24.1, P24.2: with many memories and packets.
func TestTakeAsTold(t *testing.T) {
	source := rand.New(rand.NewSource(242))
	seen := map[api.Errno]int{}
	lots(source, 60, func(c api.Conf, m api.Mem, packets []api.Packet) {
		for from, p := range packets {
			h := hearing{m, from, p}
			want := checkAsTold(c, h)
			seen[want]++
			wantCheck(t, c, h, want)
			if want != api.OK {
				wantRefused(t, c, h, want)
				continue
			}
			d := api.Deliver{From: from, Slot: p.Slot - 1, Cycle: p.Cycle, Text: p.Text}
			wantTake(t, c, h, withMark(m.Heard, len(c.Table), d.Slot), withMark(m.Seen, c.N, from), d)
		}
	})
	for _, e := range []api.Errno{api.OK, api.ErrSlot, api.ErrMute, api.ErrOwner, api.ErrLate, api.ErrWord, api.ErrText, api.ErrTwice} {
		if seen[e] < 10 {
			t.Errorf("error %d came but %d times", e, seen[e])
		}
	}
}

// P24.3, by hand: in the small configuration one slot's window is open at a time.
func TestAllExamples(t *testing.T) {
	c, p, none := samples.Small(), good(), api.Packet{}
	a := api.Deliver{Cycle: 7, Text: "a"}
	asItWas := taken{"0100", "0010", nil, 0}
	wantAll(t, c, ready(), nil, asItWas)
	wantAll(t, c, ready(), []api.Packet{{}, {}, {}, {}}, asItWas)
	wantAll(t, c, ready(), []api.Packet{packet.Strip(p), {Cycle: 7, Text: "a"}}, asItWas)
	wantAll(t, c, ready(), []api.Packet{p}, taken{"1100", "1010", []api.Deliver{a}, 0})
	wantAll(t, c, ready(), []api.Packet{p, p, none, {Slot: 4, Cycle: 7}}, taken{"1100", "1010", []api.Deliver{a}, 2})
	wantAll(t, c, ready(), []api.Packet{none, p}, taken{"0100", "0010", nil, 1})
	wantAll(t, c, ready(), []api.Packet{{Slot: -1}, {Slot: 5}, {Slot: math.MinInt}, {Slot: math.MaxInt}}, taken{"0100", "0010", nil, 4})
	wantAll(t, c, ready(), []api.Packet{none, none, none, none, p, none, p}, taken{"0100", "0010", nil, 2})
	// As they were, if none was taken, whatever they are.
	odd := turned(func(h *hearing) { h.m.Heard, h.m.Seen = "1x\xff1111111", "é" }).m
	wantAll(t, c, odd, []api.Packet{p}, taken{odd.Heard, odd.Seen, nil, 1})
	wantAll(t, c, odd, nil, taken{odd.Heard, odd.Seen, nil, 0})
	odd.Heard = "xx\xff1111111"
	wantAll(t, c, odd, []api.Packet{p}, taken{"1001", "1000", []api.Deliver{a}, 0})
}

// P24.3: each with the marks as they are behind the ones ahead of it, in the nodes' order.
func TestAllOneAfterAnother(t *testing.T) {
	// The middles are 20, 60, 100, 140, 180 and 220, each heard 64 later, the guard 73: at 215 the windows of slots 2 to 5 are open, of nodes 1, 0, 3 and 2; those of slots 0 and 1 ended at 157 and 197.
	m := api.Mem{Clock: 215, Regular: 2, Number: 7, Heard: "01", Seen: "x"}
	say := func(slot int, text string) api.Packet { return api.Packet{Slot: slot, Cycle: 7, Text: text} }
	wantAll(t, loose(), m, []api.Packet{say(4, "a"), say(3, "b"), say(6, "c"), say(5, "d")}, taken{"011111", "1111", []api.Deliver{
		{From: 0, Slot: 3, Cycle: 7, Text: "a"}, {From: 1, Slot: 2, Cycle: 7, Text: "b"}, {From: 2, Slot: 5, Cycle: 7, Text: "c"}, {From: 3, Slot: 4, Cycle: 7, Text: "d"},
	}, 0})
	wantAll(t, loose(), m, []api.Packet{say(3, "a"), say(3, "b"), say(2, "c"), say(5, "d")}, taken{"011010", "0101", []api.Deliver{
		{From: 1, Slot: 2, Cycle: 7, Text: "b"}, {From: 3, Slot: 4, Cycle: 7, Text: "d"},
	}, 2})
	wantAll(t, loose(), m, []api.Packet{{}, {}, say(6, strings.Repeat("x", 17)), say(5, "d")}, taken{"010010", "0001", []api.Deliver{{From: 3, Slot: 4, Cycle: 7, Text: "d"}}, 1})
}

// P24.3
func TestAllAsTold(t *testing.T) {
	most := 0
	lots(rand.New(rand.NewSource(243)), 100, func(c api.Conf, m api.Mem, packets []api.Packet) {
		want := allAsTold(c, m, packets)
		wantAll(t, c, m, packets, want)
		most = max(most, len(want.got))
	})
	if most < 4 {
		t.Errorf("%d messages at most were delivered at once", most)
	}
}

// P24.3: of what is not plain nothing, and 0.
func TestAllNotPlain(t *testing.T) {
	for _, c := range samples.Wrong() {
		wantAll(t, c, ready(), nil, taken{})
		wantAll(t, c, ready(), []api.Packet{good(), {}, {Slot: 9}}, taken{})
	}
}

// Rules 4 and 5: nothing that is handed in is changed or kept, and answers share nothing.
func TestNothingIsKept(t *testing.T) {
	c, m := samples.Small(), ready()
	packets := []api.Packet{good(), good(), {}, {Slot: 4}}
	before := slices.Clone(packets)
	_, _, first, _ := accept.All(c, m, packets...)
	_, _, second, _ := accept.All(c, m, packets...)
	if !slices.Equal(packets, before) || !slices.Equal(c.Table, []int{0, 1, 2, 3}) || m.Heard != "0100" || m.Seen != "0010" {
		t.Errorf("changed: %v, %v, %+v", packets, c, m)
	}
	packets[0].Text, second[0].Text = "z", "y"
	if len(first) != 1 || first[0].Text != "a" {
		t.Errorf("%+v behind writing into what was handed in, and answered", first)
	}
	c.Table[0], c.Table[1] = 1, 0
	wantAll(t, c, m, before, taken{"1100", "0110", []api.Deliver{{From: 1, Cycle: 7, Text: "a"}}, 2})
}

// P24.4: what is delivered came from the slot's owner, in its window, with the cycle's number; it is not taken again, whatever the clock is then, till the marks are gone.
func TestWhatIsDelivered(t *testing.T) {
	delivered := 0
	lots(rand.New(rand.NewSource(244)), 120, func(c api.Conf, m api.Mem, packets []api.Packet) {
		heard, _, got, _ := accept.All(c, m, packets...)
		for _, d := range got {
			delivered++
			now := hearing{m, d.From, api.Packet{Slot: d.Slot + 1, Cycle: d.Cycle, Text: d.Text}}
			elapsed := ring.Diff(m.Clock, m.Anchor)
			off := elapsed - (bound.Middle(c, d.Slot) + c.D*c.Rate)
			if c.Table[d.Slot] != d.From || max(off, -off) > bound.Guard(c) || d.Cycle != m.Number || !gate.Sync(m) || packets[d.From].Text != d.Text || packets[d.From].Slot != d.Slot+1 {
				t.Errorf("%v: of %+v %+v was delivered", c, m, d)
			}
			for units := range 3 * c.Rate {
				now.m.Heard, now.m.Clock = heard, ring.Add(m.Clock, units)
				if e := accept.Check(c, now.m, now.from, now.p); e == api.OK {
					t.Fatalf("%v: %+v is taken again", c, d)
				}
			}
			now.m.Heard, now.m.Clock = "", m.Clock
			wantCheck(t, c, now, api.OK)
		}
	})
	if delivered < 1000 {
		t.Errorf("only %d were delivered", delivered)
	}
}

// P24.4: of what is right one message at most at a time, whatever all nodes send, and however many of them.
func TestOneAtATime(t *testing.T) {
	source := rand.New(rand.NewSource(245))
	ones := 0
	for _, c := range append(samples.Rights(source.Intn, 200), samples.Small()) {
		for elapsed := range (c.Period + 2) * (c.Rate + c.Drift) / 7 {
			m := api.Mem{Clock: 7 * elapsed, Regular: 2}
			packets := make([]api.Packet, c.N)
			for slot, owner := range c.Table {
				if packets[owner].Slot == 0 || source.Intn(2) == 0 {
					packets[owner].Slot = slot + 1
				}
			}
			_, _, got, _ := accept.All(c, m, packets...)
			if len(got) > 1 {
				t.Fatalf("%v: at %d %+v", c, 7*elapsed, got)
			}
			ones += len(got)
		}
	}
	if ones < 1000 {
		t.Errorf("only %d were delivered", ones)
	}
}

// P24.4, with gate: in what is right all that is sent from pulse to pulse is taken D ticks later, once, by all.
func TestWhatIsSentIsTaken(t *testing.T) {
	source := rand.New(rand.NewSource(246))
	for _, c := range append(samples.Rights(source.Intn, 60), samples.Small()) {
		clocks := samples.Clocks(c, source.Intn)
		cycle := cycleOf(c, func(node int) []int { return clocks[node%len(clocks)] })
		for node, got := range cycle {
			var want []api.Deliver
			for slot, owner := range c.Table {
				want = append(want, api.Deliver{From: owner, Slot: slot, Cycle: 1, Text: string(rune('a' + owner))})
			}
			if !slices.Equal(got, want) {
				t.Fatalf("%v: node %d delivered %+v", c, node, got)
			}
		}
	}
}

// cycleOf is what each node delivers from a pulse to the tick ahead of the next one, if each sends whenever it may, and all is D ticks on its way.
func cycleOf(c api.Conf, clock func(node int) []int) [][]api.Deliver {
	nodes := make([]api.Mem, c.N)
	for node := range nodes {
		nodes[node] = api.Mem{Regular: 2, Number: 1, Line: string(rune('a' + node))}
	}
	delivered := make([][]api.Deliver, c.N)
	var way [][]api.Packet
	for tick := range c.Period {
		packets := make([]api.Packet, c.N)
		for node := range nodes {
			m := &nodes[node]
			m.Clock = clock(node)[tick]
			if tick >= c.D {
				heard, seen, got, _ := accept.All(c, *m, way[tick-c.D]...)
				m.Heard, m.Seen = heard, seen
				delivered[node] = append(delivered[node], got...)
			}
			packets[node], m.Sent, _ = gate.Send(c, *m, node, packet.Blank(c))
		}
		way = append(way, packets)
	}
	return delivered
}
