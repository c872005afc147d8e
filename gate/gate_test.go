package gate_test

import (
	"math"
	"math/rand"
	"slices"
	"strings"
	"testing"

	"bellwether/api"
	"bellwether/conf"
	"bellwether/gate"
	"bellwether/packet"
	"bellwether/ring"
	"bellwether/samples"
)

// narrow has slots that are shorter than a tick, so that several of one node may be due at once.
func narrow() api.Conf {
	c := samples.Small()
	c.Offset, c.Slot, c.Table = 5, 10, []int{0, 1, 0, 2, 0, 3, 0}
	return c
}

// confs are plain configurations, right ones and others, with the least and the greatest slots that there may be.
func confs() []api.Conf {
	most, far, loose := samples.Small(), samples.Small(), samples.Small()
	most.Offset, most.Slot, most.Table = 0, 1, slices.Repeat([]int{3, 0, 2, 1}, api.MaxSlots/4)
	far.Offset, far.Slot = 30000, 9000
	loose.Drift = 63
	out := []api.Conf{samples.Small(), narrow(), most, far, loose}
	return append(out, samples.Rights(rand.New(rand.NewSource(231)).Intn, 40)...)
}

// ready is the memory of a node that may send in the small configuration's slot 0.
func ready() api.Mem {
	return api.Mem{Clock: 159, Regular: 2, Number: 7, Line: "hello", Sent: "0100"}
}

// at is ready, changed.
func at(change func(m *api.Mem)) api.Mem {
	m := ready()
	change(&m)
	return m
}

// votes is a packet with all there is but a message.
func votes() api.Packet {
	return api.Packet{Votes: "012012", Ex: 3, Vec: "012012012012"}
}

// message is votes with that message.
func message(slot, cycle int, text string) api.Packet {
	p := votes()
	p.Slot, p.Cycle, p.Text = slot, cycle, text
	return p
}

func wantSync(t *testing.T, m api.Mem, want bool) {
	t.Helper()
	if got := gate.Sync(m); got != want {
		t.Errorf("Sync(%+v): %t", m, got)
	}
}

func wantMark(t *testing.T, want, marks string, n int, at ...int) {
	t.Helper()
	if got := gate.Mark(marks, n, at...); got != want {
		t.Errorf("Mark(%q, %d, %v): %q, not %q", marks, n, at, got, want)
	}
}

func wantOpen(t *testing.T, c api.Conf, m api.Mem, me, want int) {
	t.Helper()
	if got := gate.Open(c, m, me); got != want {
		t.Errorf("%v: Open(%+v, %d): %d, not %d", c, m, me, got, want)
	}
}

func wantGuard(t *testing.T, c api.Conf, m api.Mem, me int, p, want api.Packet) {
	t.Helper()
	if got := gate.Guard(c, m, me, p); got != want {
		t.Errorf("%v: Guard(%+v, %d, %+v): %+v, not %+v", c, m, me, p, got, want)
	}
}

func wantSend(t *testing.T, c api.Conf, m api.Mem, me int, p, want api.Packet, sent string, slot int) {
	t.Helper()
	if q, s, n := gate.Send(c, m, me, p); q != want || s != sent || n != slot {
		t.Errorf("%v: Send(%+v, %d, %+v): %+v, %q, %d, not %+v, %q, %d", c, m, me, p, q, s, n, want, sent, slot)
	}
}

// P23.1: two regular cycles are enough, and nothing else is asked.
func TestSync(t *testing.T) {
	for _, n := range []int{math.MinInt, -65536, -2, -1, 0, 1} {
		wantSync(t, api.Mem{Regular: n}, false)
		wantSync(t, at(func(m *api.Mem) { m.Regular, m.Members, m.Seen, m.Age = n, "1111", "1111", 2 }), false)
	}
	for _, n := range []int{2, 3, 100, 65535, 65536, math.MaxInt} {
		wantSync(t, api.Mem{Regular: n}, true)
		wantSync(t, api.Mem{Regular: n, Clock: -1, Number: math.MinInt, Members: "0000"}, true)
	}
	wantSync(t, api.Mem{}, false)
}

// P23.1, by hand.
func TestMarkExamples(t *testing.T) {
	wantMark(t, "0000", "", 4)
	wantMark(t, "0110", "0110", 4)
	wantMark(t, "0110", "011", 4)
	wantMark(t, "01", "0110", 2)
	wantMark(t, "", "0110", 0)
	wantMark(t, "1000", "", 4, 0)
	wantMark(t, "0001", "", 4, 3)
	wantMark(t, "1111", "0100", 4, 0, 2, 3)
	wantMark(t, "1111", "0100", 4, 3, 2, 0)
	wantMark(t, "0110", "0100", 4, 2, 2, 2, 1)
	wantMark(t, "0000", "", 4, 4, -1, 64, 5)
	wantMark(t, "0010", "", 4, 4, 2, -1)
	wantMark(t, "0000", "2x/:", 4)
	wantMark(t, "0001", "\x01\x00\xff1", 4)
	wantMark(t, "0010", "é1", 4)  // places are counted by bytes
	wantMark(t, "00010", "１1", 5) // a digit of another script is three bytes, none of them a 1
	wantMark(t, "1", "x", 1, 0)
}

// P23.1: n counts as from 0 to 64.
func TestMarkLengths(t *testing.T) {
	for n, want := range map[int]int{math.MinInt: 0, -65536: 0, -1: 0, 0: 0, 1: 1, 2: 2, 13: 13, 32: 32, 63: 63, 64: 64, 65: 64, 99: 64, 1 << 31: 64, 1 << 32: 64, math.MaxInt: 64} {
		wantMark(t, strings.Repeat("0", want), "", n)
		wantMark(t, strings.Repeat("1", want), strings.Repeat("1", 200), n)
		wantMark(t, strings.Repeat("0", want), "", n, want, -1, 64, math.MaxInt, math.MinInt)
		if want > 0 {
			wantMark(t, strings.Repeat("0", want-1)+"1", "", n, want-1)
		}
	}
}

// markAsTold is Mark once more, straight from the chapter's words.
func markAsTold(marks string, n int, at []int) string {
	out := ""
	for place := range min(max(n, 0), 64) {
		hasOne := strings.HasPrefix(marks[min(place, len(marks)):], "1")
		if hasOne || slices.Contains(at, place) {
			out += "1"
		} else {
			out += "0"
		}
	}
	return out
}

// P23.1, P8
func TestMarkAsTold(t *testing.T) {
	source := rand.New(rand.NewSource(232))
	for _, marks := range samples.Marks() {
		for _, n := range append(samples.Wild(), 0, 1, 2, 3, 4, 13) {
			var places []int
			for range source.Intn(6) {
				places = append(places, source.Intn(70)-3)
			}
			wantMark(t, markAsTold(marks, n, places), marks, n, places...)
			wantMark(t, markAsTold(marks, n, samples.Wild()), marks, n, samples.Wild()...)
		}
	}
	for range 5000 {
		marks, n := samples.Text(source.Intn, source.Intn(70), "001"), source.Intn(70)-2
		places := []int{source.Intn(70) - 2, source.Intn(70) - 2}
		wantMark(t, markAsTold(marks, n, places), marks, n, places...)
	}
}

// Rules 4 and 5: the places are neither changed nor kept, and there may be none.
func TestMarkKeepsNothing(t *testing.T) {
	places := []int{3, 1, 9, -1}
	first := gate.Mark("", 4, places...)
	if first != "0101" || !slices.Equal(places, []int{3, 1, 9, -1}) {
		t.Errorf("%q, and the places are %v", first, places)
	}
	places[0] = 0
	if first != "0101" {
		t.Errorf("%q behind writing into the places", first)
	}
	wantMark(t, "0000", "", 4)
	wantMark(t, "0010", "001", 4, nil...)
	wantMark(t, "0010", "001", 4, []int{}...)
}

// P23.2: the chapter's example, and the other slots: the middles are 159, 349, 539 and 729, and Rate and Drift are 65.
func TestOpenExamples(t *testing.T) {
	for _, x := range []struct {
		clock, anchor, regular, me int
		sent                       string
		want                       int
	}{
		{159, 0, 2, 0, "", 0},
		{159, 0, 1, 0, "", -1},
		{159, 0, 0, 0, "", -1},
		{159, 0, -1, 0, "", -1},
		{159, 0, 3, 0, "", 0},
		{158, 0, 2, 0, "", -1},
		{223, 0, 2, 0, "", 0},
		{224, 0, 2, 0, "", -1},
		{159, 0, 2, 1, "", -1},
		{349, 0, 2, 0, "", -1},
		{349, 0, 2, 1, "", 1},
		{413, 0, 2, 1, "", 1},
		{414, 0, 2, 1, "", -1},
		{539, 0, 2, 2, "", 2},
		{729, 0, 2, 3, "", 3},
		{793, 0, 2, 3, "", 3},
		{794, 0, 2, 3, "", -1},
		{159, 0, 2, 0, "1", -1},
		{159, 0, 2, 0, "0111", 0},
		{159, 0, 2, 0, "x", 0},
		{729, 0, 2, 3, "111", 3},
		{729, 0, 2, 3, "0001", -1},
		{159, 0, 2, -1, "", -1},
		{159, 0, 2, 4, "", -1},
		{0, 0, 2, 0, "", -1},
		{159, 159, 2, 0, "", -1},
		{500, 341, 2, 0, "", 0},
		{500, 342, 2, 0, "", -1},
		{58, 65435, 2, 0, "", 0}, // over the turn of the clock
		{57, 65435, 2, 0, "", -1},
		{0, 65377, 2, 0, "", 0},
		{0, 159, 2, 0, "", -1},
		{159 + 65536, 0, 2, 0, "", 0},
		{159 - 65536, 0, 2, 0, "", 0},
		{159, -65536, 2, 0, "", 0},
		{math.MinInt + 159, math.MinInt, 2, 0, "", 0},
		{math.MaxInt, math.MaxInt - 159, 2, 0, "", 0},
		{159, 0, math.MaxInt, 0, "", 0},
		{159, 0, math.MinInt, 0, "", -1},
	} {
		wantOpen(t, samples.Small(), api.Mem{Clock: x.clock, Anchor: x.anchor, Regular: x.regular, Sent: x.sent}, x.me, x.want)
	}
}

// openAsTold is Open once more, straight from the words of the chapters.
func openAsTold(c api.Conf, m api.Mem, me int) int {
	elapsed := ((m.Clock-m.Anchor)%api.Wrap + api.Wrap) % api.Wrap
	for k, owner := range c.Table {
		middle := c.Offset + k*c.Slot + c.Slot/2
		over := elapsed >= middle && elapsed < middle+c.Rate+c.Drift
		if m.Regular >= 2 && owner == me && over && !(k < len(m.Sent) && m.Sent[k] == '1') {
			return k
		}
	}
	return -1
}

// some is a memory by chance, whose clock is about a slot's middle, or where a slot is due no more.
func some(source *rand.Rand, c api.Conf) api.Mem {
	k := source.Intn(len(c.Table))
	middle := c.Offset + k*c.Slot + c.Slot/2
	anchor := source.Intn(3*api.Wrap) - api.Wrap
	return api.Mem{
		Clock:   ring.Add(anchor, middle+source.Intn(c.Rate+c.Drift+4)-2),
		Anchor:  anchor,
		Number:  source.Intn(c.Mod),
		Regular: source.Intn(5),
		Sent:    samples.Text(source.Intn, source.Intn(len(c.Table)+3), "0001"),
		Line:    samples.Text(source.Intn, source.Intn(api.MaxText+2), "ab"),
		Seen:    samples.Text(source.Intn, c.N, "01"),
		Heard:   samples.Text(source.Intn, len(c.Table), "01"),
		Age:     source.Intn(9),
	}
}

// lots calls try with many configurations, memories by chance and nodes.
func lots(source *rand.Rand, tries int, try func(c api.Conf, m api.Mem, me int)) {
	for _, c := range confs() {
		for range tries {
			m := some(source, c)
			for me := -1; me <= c.N; me++ {
				try(c, m, me)
			}
		}
	}
}

// P23.2
func TestOpenAsTold(t *testing.T) {
	opened := 0
	lots(rand.New(rand.NewSource(233)), 60, func(c api.Conf, m api.Mem, me int) {
		want := openAsTold(c, m, me)
		wantOpen(t, c, m, me, want)
		if want >= 0 {
			opened++
		}
	})
	if opened < 1000 {
		t.Errorf("only %d slots were open", opened)
	}
}

// P23.2: of several that are due the first one that was not sent in.
func TestOpenIsTheFirst(t *testing.T) {
	for sent, want := range map[string]int{"": 0, "1": 2, "101": 4, "10101": 6, "1010101": -1, "0010101": 0, "1000101": 2, "0101010": 0} {
		wantOpen(t, narrow(), api.Mem{Clock: 70, Regular: 2, Sent: sent}, 0, want)
	}
}

// P23.2, P8: no node, and the least and the greatest numbers.
func TestOpenOfWildNumbers(t *testing.T) {
	c := samples.Small()
	for _, n := range samples.Wild() {
		wantOpen(t, c, ready(), n, -1)
		for _, k := range samples.Wild() {
			m := at(func(m *api.Mem) { m.Clock, m.Anchor = n, k })
			elapsed := (ring.Put(n) - ring.Put(k) + api.Wrap) % api.Wrap
			wantOpen(t, c, m, 0, openAsTold(c, at(func(m *api.Mem) { m.Clock = elapsed }), 0))
		}
	}
}

// P23.3: in slot 0, of cycle 7, with the text hello.
func TestGuardExamples(t *testing.T) {
	c, bare := samples.Small(), votes()
	pass := func(m api.Mem, me int, p api.Packet) { t.Helper(); wantGuard(t, c, m, me, p, p) }
	stop := func(m api.Mem, me int, p api.Packet) {
		t.Helper()
		p.Votes, p.Ex, p.Vec = bare.Votes, bare.Ex, bare.Vec
		wantGuard(t, c, m, me, p, bare)
	}
	right := message(1, 7, "hello")
	pass(ready(), 0, right)
	pass(ready(), 0, api.Packet{Slot: 1, Cycle: 7, Text: "hello"})
	pass(at(func(m *api.Mem) { m.Line = "" }), 0, message(1, 7, ""))
	pass(at(func(m *api.Mem) { m.Number = 0 }), 0, message(1, 0, "hello"))
	pass(at(func(m *api.Mem) { m.Clock = 729 }), 3, message(4, 7, "hello"))
	for _, slot := range append(samples.Wild(), 2, 3, 4, 5, 32) {
		stop(ready(), 0, message(slot, 7, "hello"))
	}
	for _, cycle := range append(samples.Wild(), 0, 1, 6, 8, 17) {
		stop(ready(), 0, message(1, cycle, "hello"))
	}
	for _, text := range append(samples.Marks(), "hell", "hello ", "Hello", "hello\x00") {
		stop(ready(), 0, message(1, 7, text))
	}
	for _, me := range append(samples.Wild(), 1, 2, 3, 4) {
		stop(ready(), me, right)
	}
	stop(at(func(m *api.Mem) { m.Regular = 1 }), 0, right)
	stop(at(func(m *api.Mem) { m.Clock = 158 }), 0, right)
	stop(at(func(m *api.Mem) { m.Clock = 224 }), 0, right)
	stop(at(func(m *api.Mem) { m.Sent = "1" }), 0, right)
	stop(at(func(m *api.Mem) { m.Line = "" }), 0, right)
	stop(at(func(m *api.Mem) { m.Number = -3 }), 0, right)
	stop(at(func(m *api.Mem) { m.Clock = 349 }), 1, right)
}

// P23.3: what has no message is let through as it is, whoever tells it, and with whatever cycle and text.
func TestGuardWithoutMessage(t *testing.T) {
	memories := []api.Mem{{}, ready(), at(func(m *api.Mem) { m.Regular = 0 }), at(func(m *api.Mem) { m.Clock = 0 })}
	for _, c := range append(confs(), samples.Wrong()...) {
		for _, m := range memories {
			for _, p := range []api.Packet{{}, votes(), message(0, 7, "hello"), message(0, -3, strings.Repeat("x", 50)), {Votes: "\xff", Ex: -9, Vec: "x"}} {
				for _, me := range []int{-1, 0, 1, 13, math.MaxInt} {
					wantGuard(t, c, m, me, p, p)
				}
			}
		}
	}
}

// P23.3: just what is for the open slot, with its cycle and text.
func TestGuardAsTold(t *testing.T) {
	source := rand.New(rand.NewSource(234))
	passed, stopped := 0, 0
	lots(source, 20, func(c api.Conf, m api.Mem, me int) {
		open := openAsTold(c, m, me)
		p := message(open+1+source.Intn(8)/7, m.Number+source.Intn(8)/7, m.Line+strings.Repeat("x", source.Intn(8)/7))
		want := p
		if p.Slot != 0 && (p.Slot != open+1 || p.Cycle != m.Number || p.Text != m.Line) {
			want = votes()
			stopped++
		} else if p.Slot != 0 {
			passed++
		}
		wantGuard(t, c, m, me, p, want)
	})
	if passed < 200 || stopped < 200 {
		t.Errorf("%d passed, %d stopped", passed, stopped)
	}
}

// P23.4: in slot 0, of cycle 7, with the text hello; elsewhere nothing.
func TestSendExamples(t *testing.T) {
	c := samples.Small()
	wantSend(t, c, ready(), 0, votes(), message(1, 7, "hello"), "1100", 1)
	wantSend(t, c, ready(), 0, api.Packet{}, api.Packet{Slot: 1, Cycle: 7, Text: "hello"}, "1100", 1)
	wantSend(t, c, ready(), 0, message(3, 2, "other"), message(1, 7, "hello"), "1100", 1)
	wantSend(t, c, at(func(m *api.Mem) { m.Clock = 729 }), 3, votes(), message(4, 7, "hello"), "0101", 4)
	wantSend(t, c, at(func(m *api.Mem) { m.Line, m.Number = "", 0 }), 0, message(2, 1, "x"), message(1, 0, ""), "1100", 1)
	for _, n := range append(samples.Wild(), 0, 250) { // whatever the number is, it is told as it is
		m := at(func(m *api.Mem) { m.Number = n })
		wantSend(t, c, m, 0, votes(), message(1, n, "hello"), "1100", 1)
		wantGuard(t, c, m, 0, message(1, n, "hello"), message(1, n, "hello"))
	}
	for sent, want := range map[string]string{"": "1000", "0": "1000", "01": "1100", "0x01": "1001", "00000000": "1000", "01111111": "1111", "é1": "1010", "\xff\xff\xff\xff\xff": "1000"} {
		wantSend(t, c, at(func(m *api.Mem) { m.Sent = sent }), 0, votes(), message(1, 7, "hello"), want, 1)
	}
	for _, change := range []func(m *api.Mem){
		func(m *api.Mem) { m.Regular = 1 },
		func(m *api.Mem) { m.Clock = 158 },
		func(m *api.Mem) { m.Clock = 224 },
		func(m *api.Mem) { m.Clock = 349 },
		func(m *api.Mem) { m.Sent = "1" },
		func(m *api.Mem) { m.Sent = "1x" },
		func(m *api.Mem) { m.Sent = "1" + strings.Repeat("é", 100) },
	} {
		m := at(change)
		for _, p := range []api.Packet{votes(), message(1, 7, "hello"), message(-1, 99, "x"), message(0, 7, "hello")} {
			wantSend(t, c, m, 0, p, votes(), m.Sent, 0)
		}
	}
	for _, me := range append(samples.Wild(), 1, 2, 3, 4) {
		wantSend(t, c, ready(), me, message(1, 7, "hello"), votes(), "0100", 0)
	}
}

// P23.4
func TestSendAsTold(t *testing.T) {
	source := rand.New(rand.NewSource(235))
	sent := 0
	lots(source, 60, func(c api.Conf, m api.Mem, me int) {
		open := openAsTold(c, m, me)
		p := message(source.Intn(3), source.Intn(3), "old")
		if open < 0 {
			wantSend(t, c, m, me, p, votes(), m.Sent, 0)
			return
		}
		sent++
		wantSend(t, c, m, me, p, message(open+1, m.Number, m.Line), markAsTold(m.Sent, len(c.Table), []int{open}), open+1)
	})
	if sent < 400 {
		t.Errorf("only %d were sent", sent)
	}
}

// P23.2 to P23.4, P8: whatever the memory, nothing is open of what is not plain.
func TestNotPlain(t *testing.T) {
	for _, c := range samples.Wrong() {
		if conf.Plain(c) == api.OK {
			t.Fatalf("%v is plain", c)
		}
		for _, clock := range append(samples.Wild(), 0, 64, 159, 349, 539, 729) {
			m := at(func(m *api.Mem) { m.Clock = clock })
			for _, me := range append(samples.Wild(), 0, 1, 2, 3, 4) {
				wantOpen(t, c, m, me, -1)
				wantGuard(t, c, m, me, message(1, 7, "hello"), votes())
				wantSend(t, c, m, me, message(1, 7, "hello"), votes(), "0100", 0)
			}
		}
	}
}

// Rules 4 and 5: neither the table nor the memory's lists are changed, nor kept.
func TestNothingIsKept(t *testing.T) {
	c := samples.Small()
	m := at(func(m *api.Mem) { m.Ports, m.Hold, m.Log = []api.Port{{Age: 1}}, []string{"x"}, []api.Entry{{At: 2}} })
	wantSend(t, c, m, 0, votes(), message(1, 7, "hello"), "1100", 1)
	wantGuard(t, c, m, 0, message(1, 7, "hello"), message(1, 7, "hello"))
	if !slices.Equal(c.Table, []int{0, 1, 2, 3}) || m.Ports[0].Age != 1 || m.Hold[0] != "x" || m.Log[0].At != 2 || m.Sent != "0100" {
		t.Errorf("changed: %v, %+v", c, m)
	}
	c.Table[0], c.Table[1] = 1, 0
	wantSend(t, c, m, 0, votes(), votes(), "0100", 0)
	wantSend(t, c, m, 1, votes(), message(1, 7, "hello"), "1100", 1)
	c.Table[1] = 1
	wantOpen(t, c, m, 1, -1)
}

// P23.5: whatever its memory has, who is not synchronized sends no message, and none is let through.
func TestMuteOnesSendNothing(t *testing.T) {
	source := rand.New(rand.NewSource(236))
	lots(source, 20, func(c api.Conf, m api.Mem, me int) {
		m.Regular = []int{math.MinInt, -1, 0, 1}[source.Intn(4)]
		if m.Regular < 0 {
			m.Clock, m.Anchor, m.Number = source.Int()-source.Int(), source.Int()-source.Int(), source.Int()
		}
		p := message(1+source.Intn(len(c.Table)), m.Number, m.Line)
		wantSend(t, c, m, me, p, votes(), m.Sent, 0)
		wantGuard(t, c, m, me, p, votes())
	})
}

// P23.5: what is sent is let through, and in that slot nothing is sent again, whatever the clock is then.
func TestWhatIsSent(t *testing.T) {
	source := rand.New(rand.NewSource(237))
	sends := 0
	lots(source, 20, func(c api.Conf, m api.Mem, me int) {
		p, sent, slot := gate.Send(c, m, me, votes())
		wantGuard(t, c, m, me, p, p)
		if slot == 0 {
			return
		}
		sends++
		for units := range 2 * (c.Rate + c.Drift) {
			later := m
			later.Sent, later.Clock = sent, ring.Add(m.Clock, units-c.Rate-c.Drift)
			q, _, again := gate.Send(c, later, me, votes())
			if again == slot || q.Slot == slot {
				t.Fatalf("%v: slot %d again, of %+v", c, slot-1, later)
			}
			wantGuard(t, c, later, me, p, votes())
		}
	})
	if sends < 300 {
		t.Errorf("only %d were sent", sends)
	}
}

// P23.5: whatever is asked of it, the guard lets nothing through but for an open slot of one's own.
func TestGuardLetsThrough(t *testing.T) {
	source := rand.New(rand.NewSource(238))
	passed := 0
	lots(source, 4, func(c api.Conf, m api.Mem, me int) {
		for slot := -1; slot <= len(c.Table)+1; slot++ {
			p := gate.Guard(c, m, me, message(slot, m.Number, m.Line))
			if p.Slot == 0 {
				continue
			}
			passed++
			if p.Slot != slot || c.Table[slot-1] != me || openAsTold(c, m, me) != slot-1 || !gate.Sync(m) {
				t.Errorf("%v: node %d with %+v: %+v", c, me, m, p)
			}
		}
	})
	if passed < 60 {
		t.Errorf("only %d passed", passed)
	}
}

// P23.5: of what is right, from pulse to pulse a synchronized node sends in each of its slots once, and another one in none.
func TestFromPulseToPulse(t *testing.T) {
	source := rand.New(rand.NewSource(239))
	right := append(samples.Rights(source.Intn, 200), samples.Small())
	for _, c := range right {
		for _, clock := range samples.Clocks(c, source.Intn) {
			for me := range c.N {
				m := api.Mem{Anchor: source.Intn(api.Wrap), Regular: 1 + source.Intn(3), Number: 1, Line: "x", Sent: "0"}
				var got, want []int
				for _, units := range clock[:c.Period] {
					m.Clock = ring.Add(m.Anchor, units)
					p, sent, slot := gate.Send(c, m, me, packet.Blank(c))
					m.Sent = sent
					if slot > 0 && p.Slot == slot {
						got = append(got, slot-1)
					}
				}
				for slot, owner := range c.Table {
					if owner == me && m.Regular >= 2 {
						want = append(want, slot)
					}
				}
				if !slices.Equal(got, want) {
					t.Fatalf("%v: node %d sends in slots %v, not %v", c, me, got, want)
				}
			}
		}
	}
}
