package port_test

import (
	"math"
	"math/rand"
	"slices"
	"strings"
	"testing"

	"bellwether/api"
	"bellwether/conf"
	"bellwether/port"
	"bellwether/samples"
)

// confs are plain configurations with few nodes and with many, that forget soon and late.
func confs() []api.Conf {
	soon, late, many := samples.Small(), samples.Small(), samples.Sized(13, 4, 4)
	soon.Fresh, late.Fresh, many.Fresh = 1, api.MaxFresh, 7
	return []api.Conf{samples.Small(), soon, late, many, samples.Sized(7, 2, 3)}
}

// from is a message of that node.
func from(node, cycle int, text string) api.Deliver {
	return api.Deliver{From: node, Slot: node + 1, Cycle: cycle, Text: text}
}

// some are ports of any kind, as many as nodes.
func some(source *rand.Rand, c api.Conf) []api.Port {
	ages := append(samples.Wild(), 0, 1, c.Fresh-2, c.Fresh-1, c.Fresh, c.Fresh+1)
	var out []api.Port
	for range c.N {
		text := samples.Text(source.Intn, source.Intn(30), "abc é")
		out = append(out, api.Port{Text: text, Cycle: source.Intn(500) - 100, Age: ages[source.Intn(len(ages))]})
	}
	return out
}

// wantPorts compares, whether a list is nil or empty.
func wantPorts(t *testing.T, what string, got, want []api.Port) {
	t.Helper()
	if !slices.Equal(got, want) {
		t.Errorf("%s: %v, not %v", what, got, want)
	}
}

func wantRead(t *testing.T, c api.Conf, ports []api.Port, from int, text string, cycle int, ok bool) {
	t.Helper()
	if s, n, fresh := port.Read(c, ports, from); s != text || n != cycle || fresh != ok {
		t.Errorf("%v: Read(%v, %d): %q, %d, %t, not %q, %d, %t", c, ports, from, s, n, fresh, text, cycle, ok)
	}
}

// wantNone wants nothing fresh of that node.
func wantNone(t *testing.T, c api.Conf, ports []api.Port, from int) {
	t.Helper()
	wantRead(t, c, ports, from, "", 0, false)
}

// P26.1
func TestBlank(t *testing.T) {
	wantPorts(t, "Blank", port.Blank(samples.Small()), []api.Port{{Age: 3}, {Age: 3}, {Age: 3}, {Age: 3}})
	for _, c := range confs() {
		wantPorts(t, "Blank", port.Blank(c), slices.Repeat([]api.Port{{Age: c.Fresh}}, c.N))
		for node := range c.N {
			wantNone(t, c, port.Blank(c), node)
		}
	}
}

// P26.1: each message at its node's port, the later one behind the earlier one, and what is of no node passed over.
func TestPutExamples(t *testing.T) {
	c := samples.Small()
	blank := port.Blank(c)
	none := api.Port{Age: 3}
	wantPorts(t, "none", port.Put(c, blank), blank)
	wantPorts(t, "one", port.Put(c, blank, from(2, 9, "hello")), []api.Port{none, none, {Text: "hello", Cycle: 9}, none})
	wantPorts(t, "two", port.Put(c, blank, from(3, 1, "d"), from(0, 2, "a")), []api.Port{{Text: "a", Cycle: 2}, none, none, {Text: "d", Cycle: 1}})
	wantPorts(t, "a second one", port.Put(c, blank, from(1, 7, "first"), from(1, 8, "last")), []api.Port{none, {Text: "last", Cycle: 8}, none, none})
	wantPorts(t, "the same in turn", port.Put(c, blank, from(1, 8, "last"), from(1, 7, "first")), []api.Port{none, {Text: "first", Cycle: 7}, none, none})
	wantPorts(t, "of no node", port.Put(c, blank, from(4, 1, "x"), from(-1, 1, "x"), from(math.MaxInt, 1, "x"), from(math.MinInt, 1, "x")), blank)
	wantPorts(t, "an empty one", port.Put(c, port.Put(c, blank, from(0, 5, "a")), api.Deliver{}), []api.Port{{}, none, none, none})
	wantPorts(t, "behind one of no node", port.Put(c, blank, from(4, 1, "x"), from(0, 1, "a")), []api.Port{{Text: "a", Cycle: 1}, none, none, none})
}

// P26.1: the text and the cycle of a message are taken as they are, and its slot does not matter.
func TestPutTakesAnything(t *testing.T) {
	c := samples.Small()
	for _, cycle := range samples.Wild() {
		for _, text := range append(samples.Marks(), strings.Repeat("\xff", 5000)) {
			got := port.Put(c, nil, api.Deliver{From: 3, Slot: cycle, Cycle: cycle, Text: text})
			wantPorts(t, "Put", got, []api.Port{{Age: 3}, {Age: 3}, {Age: 3}, {Text: text, Cycle: cycle}})
			wantRead(t, c, got, 3, text, cycle, true)
		}
	}
}

// P26.1
func TestOlderExamples(t *testing.T) {
	c := samples.Small()
	got := port.Older(c, []api.Port{{Text: "a", Cycle: 1}, {Text: "b", Cycle: 2, Age: 1}, {Text: "c", Cycle: 3, Age: 2}, {Text: "d", Cycle: 4, Age: 3}})
	wantPorts(t, "Older", got, []api.Port{{Text: "a", Cycle: 1, Age: 1}, {Text: "b", Cycle: 2, Age: 2}, {Text: "c", Cycle: 3, Age: 3}, {Text: "d", Cycle: 4, Age: 3}})
	got = port.Older(c, []api.Port{{Text: "a", Age: -1}, {Age: 4}, {Age: math.MinInt}, {Age: math.MaxInt}})
	wantPorts(t, "Older", got, []api.Port{{Text: "a"}, {Age: 3}, {}, {Age: 3}})
}

// olderAsTold is an age a pulse later, straight from the words of the chapters.
func olderAsTold(age, fresh int) int {
	if age < 0 {
		return 0
	}
	return min(age, fresh-1) + 1
}

// P26.1, P8
func TestOlderAsTold(t *testing.T) {
	source := rand.New(rand.NewSource(261))
	for range 300 {
		for _, c := range confs() {
			ports := some(source, c)
			want := slices.Clone(ports)
			for node := range want {
				want[node].Age = olderAsTold(want[node].Age, c.Fresh)
			}
			wantPorts(t, "Older", port.Older(c, ports), want)
		}
	}
}

// P26.1: messages one after another are as all of them together, and other ports stay as they are.
func TestPutAsTold(t *testing.T) {
	source := rand.New(rand.NewSource(262))
	for range 300 {
		for _, c := range confs() {
			ports := some(source, c)
			want := slices.Clone(ports)
			var got []api.Deliver
			for range source.Intn(6) {
				message := from(source.Intn(c.N+2)-1, source.Intn(300), samples.Text(source.Intn, source.Intn(20), "xyz"))
				got = append(got, message)
				if message.From >= 0 && message.From < c.N {
					want[message.From] = api.Port{Text: message.Text, Cycle: message.Cycle}
				}
			}
			wantPorts(t, "Put", port.Put(c, ports, got...), want)
			for _, message := range got {
				ports = port.Put(c, ports, message)
			}
			wantPorts(t, "Put one by one", ports, want)
		}
	}
}

// P26.2: fresh from 0 to Fresh less 1, and not beyond, nor below 0.
func TestReadAges(t *testing.T) {
	for _, c := range confs() {
		for _, age := range append(samples.Wild(), 0, 1, 2, 3, 6, 7, 99, 100, c.Fresh-1, c.Fresh, c.Fresh+1) {
			ports := port.Blank(c)
			ports[c.N-1] = api.Port{Text: "hello", Cycle: 9, Age: age}
			if age >= 0 && age < c.Fresh {
				wantRead(t, c, ports, c.N-1, "hello", 9, true)
			} else {
				wantNone(t, c, ports, c.N-1)
			}
		}
	}
}

// P26.2: of what is no node nothing is fresh.
func TestReadNodes(t *testing.T) {
	for _, c := range confs() {
		ports := port.Blank(c)
		for node := range ports {
			ports[node] = api.Port{Text: string(rune('a' + node)), Cycle: node + 1}
		}
		for node := range c.N {
			wantRead(t, c, ports, node, string(rune('a'+node)), node+1, true)
		}
		for _, node := range append(samples.Wild(), c.N, c.N+1) {
			wantNone(t, c, ports, node)
		}
	}
}

// P26.2: a message without a text is one.
func TestReadEmptyText(t *testing.T) {
	c := samples.Small()
	wantRead(t, c, make([]api.Port, 4), 2, "", 0, true)
	wantRead(t, c, port.Put(c, nil, from(2, 9, "")), 2, "", 9, true)
}

// P26.1, P26.2: a list that has not N ports counts as blank.
func TestListsThatDoNotFit(t *testing.T) {
	for _, c := range confs() {
		for _, count := range []int{0, 1, c.N - 1, c.N + 1, 2 * c.N} {
			ports := slices.Repeat([]api.Port{{Text: "a", Cycle: 1}}, count)
			wantPorts(t, "Put", port.Put(c, ports), port.Blank(c))
			wantPorts(t, "Put", port.Put(c, ports, from(1, 2, "b")), port.Put(c, port.Blank(c), from(1, 2, "b")))
			wantPorts(t, "Older", port.Older(c, ports), port.Blank(c))
			for node := range c.N {
				wantNone(t, c, ports, node)
			}
		}
		wantPorts(t, "Put", port.Put(c, nil), port.Blank(c))
		wantPorts(t, "Older", port.Older(c, nil), port.Blank(c))
	}
}

// P26.1, P26.2, P8: of what is not plain there is none, and nothing is fresh.
func TestNotPlain(t *testing.T) {
	for _, c := range samples.Wrong() {
		if conf.Plain(c) == api.OK {
			t.Fatalf("%v is plain", c)
		}
		for _, ports := range [][]api.Port{nil, make([]api.Port, 3), make([]api.Port, 4), make([]api.Port, 14)} {
			wantPorts(t, "Blank", port.Blank(c), nil)
			wantPorts(t, "Put", port.Put(c, ports), nil)
			wantPorts(t, "Put", port.Put(c, ports, from(0, 1, "a"), api.Deliver{}), nil)
			wantPorts(t, "Older", port.Older(c, ports), nil)
			for _, node := range append(samples.Wild(), 0, 1, 2, 3, 4) {
				wantNone(t, c, ports, node)
			}
		}
	}
}

// P26.3: the chapter's example.
func TestExample(t *testing.T) {
	c := samples.Small()
	ports := port.Put(c, nil, from(1, 7, "a"))
	twice := port.Older(c, port.Older(c, ports))
	wantRead(t, c, twice, 1, "a", 7, true)
	wantNone(t, c, port.Older(c, twice), 1)
}

// P26.3: what was put is read till there were Fresh pulses, whatever comes from others.
func TestReadTillItIsOld(t *testing.T) {
	source := rand.New(rand.NewSource(263))
	for _, c := range confs() {
		for node := range c.N {
			ports := port.Put(c, some(source, c), from(node, 40+node, "hello"))
			for pulse := range c.Fresh + 3 {
				if pulse < c.Fresh {
					wantRead(t, c, ports, node, "hello", 40+node, true)
				} else {
					wantNone(t, c, ports, node)
				}
				other := (node + 1 + source.Intn(c.N-1)) % c.N
				ports = port.Put(c, ports, from(other, pulse, "x"), from(c.N, pulse, "y"))
				ports = port.Older(c, ports)
			}
		}
	}
}

// P26.3: of several messages of a node the last one stands, and from it on pulses are counted.
func TestLastOneStands(t *testing.T) {
	source := rand.New(rand.NewSource(264))
	for _, c := range confs() {
		ports, last := port.Blank(c), make([]*api.Deliver, c.N)
		ages := make([]int, c.N)
		for step := range 1000 {
			if source.Intn(3) == 0 {
				ports = port.Older(c, ports)
				for node := range ages {
					ages[node]++
				}
			} else {
				message := from(source.Intn(c.N), step, samples.Text(source.Intn, 3, "abc"))
				ports = port.Put(c, ports, message)
				last[message.From], ages[message.From] = &message, 0
			}
			for node, message := range last {
				if message == nil || ages[node] >= c.Fresh {
					wantNone(t, c, ports, node)
				} else {
					wantRead(t, c, ports, node, message.Text, message.Cycle, true)
				}
			}
		}
	}
}

// Rules 4 and 5: no list that is handed in is changed, kept or shared, not even behind its end.
func TestListsAreOwn(t *testing.T) {
	source := rand.New(rand.NewSource(265))
	for _, c := range confs() {
		room := append(some(source, c), api.Port{Text: "behind"}, api.Port{Text: "the end"})
		ports, got := room[:c.N], []api.Deliver{from(0, 1, "a"), from(-1, 2, "b")}
		before, told := slices.Clone(room), slices.Clone(got)
		for _, answer := range [][]api.Port{port.Put(c, ports, got...), port.Put(c, ports), port.Older(c, ports), port.Blank(c)} {
			clear(answer)
			_ = append(answer, api.Port{Text: "x"}, api.Port{Text: "x"})
		}
		port.Read(c, ports, 0)
		if !slices.Equal(room, before) || !slices.Equal(got, told) {
			t.Fatalf("changed: %v, %v", room, got)
		}
		wantPorts(t, "Blank", port.Blank(c), slices.Repeat([]api.Port{{Age: c.Fresh}}, c.N))
	}
}

// Rule 5: what is written into a list later is seen by no answer.
func TestListsAreNotKept(t *testing.T) {
	c := samples.Small()
	ports, got := port.Put(c, nil, from(1, 7, "a")), []api.Deliver{from(2, 8, "b")}
	put, older := port.Put(c, ports, got...), port.Older(c, ports)
	clear(ports)
	got[0].Text, c.Table[0] = "x", 1
	wantPorts(t, "Put", put, []api.Port{{Age: 3}, {Text: "a", Cycle: 7}, {Text: "b", Cycle: 8}, {Age: 3}})
	wantPorts(t, "Older", older, []api.Port{{Age: 3}, {Text: "a", Cycle: 7, Age: 1}, {Age: 3}, {Age: 3}})
}
