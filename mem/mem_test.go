package mem_test

import (
	"math"
	"math/rand"
	"reflect"
	"slices"
	"strings"
	"testing"

	"bellwether/api"
	"bellwether/conf"
	"bellwether/mem"
	"bellwether/samples"
)

type (
	number = func(m *api.Mem) *int
	text   = func(m *api.Mem) *string
)

// numbers are a memory's numbers, the counters and what stands in lists among them.
func numbers() map[string]number {
	out := map[string]number{
		"Clock":   func(m *api.Mem) *int { return &m.Clock },
		"Anchor":  func(m *api.Mem) *int { return &m.Anchor },
		"Since":   func(m *api.Mem) *int { return &m.Since },
		"Age":     func(m *api.Mem) *int { return &m.Age },
		"Number":  func(m *api.Mem) *int { return &m.Number },
		"Regular": func(m *api.Mem) *int { return &m.Regular },
		"a cycle": func(m *api.Mem) *int { return &m.Ports[3].Cycle },
		"an age":  func(m *api.Mem) *int { return &m.Ports[0].Age },
		"a node":  func(m *api.Mem) *int { return &m.Log[1].From },
		"a time":  func(m *api.Mem) *int { return &m.Log[0].At },
	}
	for i := range 6 {
		out["counter "+string(rune('0'+i))] = func(m *api.Mem) *int { return &m.Diag[i] }
	}
	return out
}

// texts are a memory's texts, those in lists among them.
func texts() map[string]text {
	return map[string]text{
		"Pipe":    func(m *api.Mem) *string { return &m.Pipe },
		"Vec":     func(m *api.Mem) *string { return &m.Vec },
		"Agreed":  func(m *api.Mem) *string { return &m.Agreed },
		"Members": func(m *api.Mem) *string { return &m.Members },
		"Seen":    func(m *api.Mem) *string { return &m.Seen },
		"Heard":   func(m *api.Mem) *string { return &m.Heard },
		"Sent":    func(m *api.Mem) *string { return &m.Sent },
		"Out":     func(m *api.Mem) *string { return &m.Out },
		"Line":    func(m *api.Mem) *string { return &m.Line },
		"a port":  func(m *api.Mem) *string { return &m.Ports[2].Text },
		"a frame": func(m *api.Mem) *string { return &m.Hold[1] },
	}
}

// whole is a memory of the small configuration that is well, with something in each part.
func whole() api.Mem {
	return api.Mem{
		Clock: 100, Anchor: 50, Since: 3, Pipe: "012345", Age: 2, Vec: "012345012345", Agreed: "010101010101", Number: 4, Regular: 1,
		Members: "0111", Seen: "1011", Heard: "1101", Sent: "1110", Out: "out", Line: "line",
		Ports: []api.Port{{Text: "a", Cycle: 1}, {Text: "b", Cycle: 9, Age: 1}, {Age: 3}, {Text: "d", Age: 2}},
		Hold:  []string{"", "x", strings.Repeat("y", 40), "\x00"},
		Log:   []api.Entry{{From: 1, At: 7}, {From: 3, At: 65535}, {}},
		Diag:  [6]int{1, 2, 3, 4, 5, 65535},
	}
}

// copied is a memory with lists of its own.
func copied(m api.Mem) api.Mem {
	m.Ports, m.Hold, m.Log = slices.Clone(m.Ports), slices.Clone(m.Hold), slices.Clone(m.Log)
	return m
}

// plain is a memory in which a list without elements is nil.
func plain(m api.Mem) api.Mem {
	if len(m.Ports) == 0 {
		m.Ports = nil
	}
	if len(m.Hold) == 0 {
		m.Hold = nil
	}
	if len(m.Log) == 0 {
		m.Log = nil
	}
	return m
}

func alike(a, b api.Mem) bool {
	return reflect.DeepEqual(plain(a), plain(b))
}

func wantMem(t *testing.T, call string, got, want api.Mem) {
	t.Helper()
	if !alike(got, want) {
		t.Errorf("%s: %+v, not %+v", call, got, want)
	}
}

func wantWell(t *testing.T, c api.Conf, m api.Mem, want bool) {
	t.Helper()
	if got := mem.Well(c, m); got != want {
		t.Errorf("Well(%v, %+v): %t", c, m, got)
	}
}

// wantSame asks in both orders.
func wantSame(t *testing.T, what string, a, b api.Mem, want bool) {
	t.Helper()
	if mem.Same(a, b) != want || mem.Same(b, a) != want {
		t.Errorf("%s: Same(%+v, %+v) is not %t", what, a, b, want)
	}
}

func wantHost(t *testing.T, c api.Conf, m api.Mem, line string, want api.Mem, e api.Errno) {
	t.Helper()
	got, err := mem.Host(c, m, line)
	wantMem(t, "Host", got, want)
	if err != e {
		t.Errorf("Host(%v, %q): error %d, not %d", c, line, err, e)
	}
}

// wantNumbers asks what a number is mended to, all other parts being well.
func wantNumbers(t *testing.T, part string, want map[int]int) {
	t.Helper()
	for n, mended := range want {
		m, told := whole(), whole()
		*numbers()[part](&m), *numbers()[part](&told) = n, mended
		wantMem(t, part, mem.Mend(samples.Small(), m), told)
		wantWell(t, samples.Small(), m, n == mended)
	}
}

// wantTexts asks what a text is mended to, all other parts being well.
func wantTexts(t *testing.T, part string, want map[string]string) {
	t.Helper()
	for s, mended := range want {
		m, told := whole(), whole()
		*texts()[part](&m), *texts()[part](&told) = s, mended
		wantMem(t, part, mem.Mend(samples.Small(), m), told)
		wantWell(t, samples.Small(), m, s == mended)
	}
}

// P28.1: the chapter's examples, and the ends of each number.
func TestMendNumbers(t *testing.T) {
	ring := map[int]int{0: 0, 65535: 65535, 65536: 0, 70000: 4464, -1: 65535, -65536: 0, -65537: 65535, math.MaxInt: 65535, math.MinInt: 0}
	counter := map[int]int{0: 0, 1: 1, 65535: 65535, 65536: 65535, -1: 0, math.MaxInt: 65535, math.MinInt: 0}
	byMod := map[int]int{0: 0, 9: 9, 10: 0, 17: 7, -1: 9, -3: 7, -10: 0, math.MaxInt: math.MaxInt % 10, math.MinInt: 10 + math.MinInt%10}
	wantNumbers(t, "Clock", ring)
	wantNumbers(t, "Anchor", ring)
	wantNumbers(t, "a time", ring)
	wantNumbers(t, "Since", map[int]int{0: 0, 19: 19, 20: 20, 21: 20, 99: 20, -1: 0, math.MaxInt: 20, math.MinInt: 0})
	wantNumbers(t, "Age", map[int]int{0: 0, 5: 5, 6: 6, 7: 6, -1: 0, math.MaxInt: 6, math.MinInt: 0})
	wantNumbers(t, "Number", byMod)
	wantNumbers(t, "a cycle", byMod)
	wantNumbers(t, "Regular", map[int]int{0: 0, 1: 1, 2: 2, 3: 2, -1: 0, math.MaxInt: 2, math.MinInt: 0})
	wantNumbers(t, "an age", map[int]int{0: 0, 2: 2, 3: 3, 4: 3, -1: 0, math.MaxInt: 3, math.MinInt: 0})
	for i := range 6 {
		wantNumbers(t, "counter "+string(rune('0'+i)), counter)
	}
}

// P28.1: what stands at each place, as far as there is one; no other byte is a digit.
func TestMendPipe(t *testing.T) {
	wantTexts(t, "Pipe", map[string]string{
		"012345": "012345", "543210": "543210", "": "000000", "5": "500000", "0x65": "000500", "12345": "123450", "5432105": "543210",
		"6789:/": "000000", "/1:2;3": "010203", "\x00\x01\x02\x03\x04\x05": "000000", "é5５1": "005000", "\xff5\xb55\x355": "050555",
		strings.Repeat("5", 5000): "555555",
	})
}

// P28.1: nothing, if there are not just so many bytes.
func TestMendVecAndAgreed(t *testing.T) {
	wantTexts(t, "Vec", map[string]string{
		"": "", "0": "", "12345012345": "", "0123450123450": "", strings.Repeat("5", 5000): "",
		"000000000000": "000000000000", "555555555555": "555555555555", "0123456789ab": "012345000000", "/0:12\x003\xff45é": "000120304500", "ééé555555": "000000555555", "éééééé": "000000000000", "éééééé0": "",
	})
	wantTexts(t, "Agreed", map[string]string{
		"": "", "1": "", "11111111111": "", "1111111111111": "", "0120": "",
		"000000000000": "000000000000", "111111111111": "111111111111", "012345678910": "010000000010", "/1:1\x011\xff1é1x": "010101010010", "é11111111111": "",
	})
}

// P28.1
func TestMendMarks(t *testing.T) {
	for _, part := range []string{"Members", "Seen", "Heard", "Sent"} {
		wantTexts(t, part, map[string]string{
			"": "0000", "1": "1000", "0101": "0101", "1111": "1111", "1x111": "1011", "00001": "0000", "2223": "0000", "\x01111": "0111", "é11": "0011", strings.Repeat("1", 5000): "1111",
		})
	}
}

// P28.1: Members and Seen have a digit a node, Heard and Sent one a slot.
func TestMendMarksOfManySlots(t *testing.T) {
	c := samples.Small()
	c.Table = []int{0, 1, 2, 3, 0, 1}
	all := strings.Repeat("1", 9)
	got := mem.Mend(c, api.Mem{Members: all, Seen: all, Heard: all, Sent: all})
	if got.Members != "1111" || got.Seen != "1111" || got.Heard != "111111" || got.Sent != "111111" {
		t.Errorf("%+v", got)
	}
	if got := mem.Blank(c); got.Members != "0000" || got.Seen != "0000" || got.Heard != "000000" || got.Sent != "000000" {
		t.Errorf("%+v", got)
	}
}

// P28.1: the first bytes, whatever they are.
func TestMendTexts(t *testing.T) {
	long := strings.Repeat("0123456789", 500)
	lines := map[string]string{
		"": "", "a": "a", "\x00\xff\n": "\x00\xff\n", long[:15]: long[:15], long[:16]: long[:16], long[:17]: long[:16], long: long[:16], strings.Repeat("é", 8): strings.Repeat("é", 8), "a" + strings.Repeat("é", 8): "a" + strings.Repeat("é", 7) + "\xc3",
	}
	for _, part := range []string{"Out", "Line", "a port"} {
		wantTexts(t, part, lines)
	}
	wantTexts(t, "a frame", map[string]string{
		"": "", "a": "a", "\x00": "\x00", long[:39]: long[:39], long[:40]: long[:40], long[:41]: long[:40], long: long[:40], strings.Repeat("é", 21): strings.Repeat("é", 20), "a" + strings.Repeat("é", 20): "a" + strings.Repeat("é", 19) + "\xc3",
	})
}

// P28.1: there are as many ports as nodes, else blank ones.
func TestMendPorts(t *testing.T) {
	c := samples.Small()
	blank := []api.Port{{Age: 3}, {Age: 3}, {Age: 3}, {Age: 3}}
	for _, count := range []int{0, 1, 3, 5, 8, 13, 5000} {
		m, want := whole(), whole()
		m.Ports, want.Ports = slices.Repeat([]api.Port{{Text: "a", Cycle: 1}}, count), blank
		wantMem(t, "Ports", mem.Mend(c, m), want)
		wantWell(t, c, m, false)
	}
	m, want := whole(), whole()
	m.Ports = []api.Port{{Text: "0123456789abcdefg", Cycle: 17, Age: 8}, {}, {Cycle: -3, Age: 2}, {Age: -1}}
	want.Ports = []api.Port{{Text: "0123456789abcdef", Cycle: 7, Age: 3}, {}, {Cycle: 7, Age: 2}, {}}
	wantMem(t, "Ports", mem.Mend(c, m), want)
}

// P28.1: there are N times D places, else empty ones.
func TestMendHold(t *testing.T) {
	for _, c := range []api.Conf{samples.Small(), samples.Sized(4, 1, 3), samples.Sized(13, 4, 4)} {
		places := c.N * c.D
		for _, count := range []int{0, 1, c.N - 1, places - 1, places, places + 1, 2 * places, 5000} {
			m, want := mem.Blank(c), mem.Blank(c)
			m.Hold = slices.Repeat([]string{"a"}, count)
			if count == places {
				want.Hold = m.Hold
			}
			wantMem(t, "Hold", mem.Mend(c, m), want)
			wantWell(t, c, m, count == places)
		}
	}
}

// notes are so many notes of one node.
func notes(from, count int) []api.Entry {
	var out []api.Entry
	for at := range count {
		out = append(out, api.Entry{From: from, At: at})
	}
	return out
}

func wantLog(t *testing.T, log, want []api.Entry) {
	t.Helper()
	m, told := whole(), whole()
	m.Log, told.Log = log, want
	wantMem(t, "Log", mem.Mend(samples.Small(), m), told)
	wantWell(t, samples.Small(), m, slices.Equal(log, want))
}

// P28.1: of the last 64 notes, in their order, those of nodes.
func TestMendLog(t *testing.T) {
	wantLog(t, nil, nil)
	wantLog(t, []api.Entry{}, nil)
	wantLog(t, []api.Entry{{From: 4}, {From: 1, At: -1}, {From: -1}}, []api.Entry{{From: 1, At: 65535}})
	wantLog(t, []api.Entry{{From: 3, At: 9}, {From: 0, At: 65536}, {From: 3, At: 8}, {From: 0, At: 2}}, []api.Entry{{From: 3, At: 9}, {From: 0}, {From: 3, At: 8}, {From: 0, At: 2}})
	for _, from := range append(samples.Wild(), 4, 5, 13) {
		wantLog(t, []api.Entry{{From: from, At: 1}}, nil)
	}
	wantLog(t, notes(2, 63), notes(2, 63))
	wantLog(t, notes(2, 64), notes(2, 64))
	wantLog(t, notes(2, 65), notes(2, 65)[1:])
	wantLog(t, notes(2, 1000), notes(2, 1000)[936:])
	// Notes of no node are among the last ones too: earlier ones do not come in for them.
	wantLog(t, append(notes(2, 64), notes(4, 10)...), notes(2, 64)[10:])
	wantLog(t, append(notes(2, 64), notes(-1, 64)...), nil)
	wantLog(t, append(notes(-1, 64), notes(1, 64)...), notes(1, 64))
}

// digitsAsTold is count digits: what stands in text, if it is from 0 to last, else 0.
func digitsAsTold(text string, count int, allowed string) string {
	out := ""
	for place := range count {
		if place < len(text) && strings.Contains(allowed, text[place:place+1]) {
			out += text[place : place+1]
		} else {
			out += "0"
		}
	}
	return out
}

func bitsAsTold(c api.Conf, text, allowed string) string {
	if len(text) != 8+c.N {
		return ""
	}
	return digitsAsTold(text, 8+c.N, allowed)
}

func modAsTold(n, by int) int {
	return (n%by + by) % by
}

func clampAsTold(n, most int) int {
	return max(0, min(n, most))
}

func firstAsTold(text string, most int) string {
	if len(text) > most {
		return text[:most]
	}
	return text
}

// mendAsTold is Mend of a plain configuration once more, straight from the chapter's words.
func mendAsTold(c api.Conf, m api.Mem) api.Mem {
	length := samples.Length(c)
	out := api.Mem{
		Clock: modAsTold(m.Clock, 65536), Anchor: modAsTold(m.Anchor, 65536), Since: clampAsTold(m.Since, c.Period), Age: clampAsTold(m.Age, length),
		Number: modAsTold(m.Number, c.Mod), Regular: clampAsTold(m.Regular, 2),
		Pipe: digitsAsTold(m.Pipe, length, "012345"), Vec: bitsAsTold(c, m.Vec, "012345"), Agreed: bitsAsTold(c, m.Agreed, "01"),
		Members: digitsAsTold(m.Members, c.N, "01"), Seen: digitsAsTold(m.Seen, c.N, "01"),
		Heard: digitsAsTold(m.Heard, len(c.Table), "01"), Sent: digitsAsTold(m.Sent, len(c.Table), "01"),
		Out: firstAsTold(m.Out, 16), Line: firstAsTold(m.Line, 16),
	}
	for node := range c.N {
		p := api.Port{Age: c.Fresh}
		if len(m.Ports) == c.N {
			old := m.Ports[node]
			p = api.Port{Text: firstAsTold(old.Text, 16), Cycle: modAsTold(old.Cycle, c.Mod), Age: clampAsTold(old.Age, c.Fresh)}
		}
		out.Ports = append(out.Ports, p)
	}
	for place := range c.N * c.D {
		out.Hold = append(out.Hold, "")
		if len(m.Hold) == c.N*c.D {
			out.Hold[place] = firstAsTold(m.Hold[place], 40)
		}
	}
	for i, note := range m.Log {
		if i >= len(m.Log)-64 && note.From >= 0 && note.From <= c.N-1 {
			out.Log = append(out.Log, api.Entry{From: note.From, At: modAsTold(note.At, 65536)})
		}
	}
	for i, count := range m.Diag {
		out.Diag[i] = clampAsTold(count, 65535)
	}
	return out
}

// confs are plain configurations, right ones and others.
func confs() []api.Conf {
	out := append(samples.Confs(), samples.Small())
	return append(out, samples.Rights(rand.New(rand.NewSource(281)).Intn, 60)...)
}

// lots calls try with many configurations and memories of any kind.
func lots(seed int64, tries int, try func(c api.Conf, m api.Mem)) {
	source := rand.New(rand.NewSource(seed))
	for _, c := range confs() {
		for range tries {
			try(c, samples.Memory(c, source.Intn))
		}
	}
}

// P28.1, P28.4: memories of any kind, of their own configuration and of another one.
func TestMendAsTold(t *testing.T) {
	last := samples.Small()
	lots(282, 60, func(c api.Conf, m api.Mem) {
		wantMem(t, "Mend", mem.Mend(c, m), mendAsTold(c, m))
		wantMem(t, "Mend", mem.Mend(last, m), mendAsTold(last, m))
		last = c
	})
}

// P28.1: wild numbers and texts in all parts at once.
func TestMendOfWildParts(t *testing.T) {
	for _, c := range confs() {
		for _, n := range samples.Wild() {
			for _, s := range samples.Marks() {
				m := api.Mem{
					Clock: n, Anchor: n, Since: n, Age: n, Number: n, Regular: n, Diag: [6]int{n, n, n, n, n, n},
					Pipe: s, Vec: s, Agreed: s, Members: s, Seen: s, Heard: s, Sent: s, Out: s, Line: s,
					Ports: slices.Repeat([]api.Port{{Text: s, Cycle: n, Age: n}}, c.N), Hold: slices.Repeat([]string{s}, c.N*c.D), Log: []api.Entry{{From: n, At: n}, {From: 1, At: n}},
				}
				wantMem(t, "Mend", mem.Mend(c, m), mendAsTold(c, m))
			}
		}
	}
}

// P28.1: the zero memory mended, but that the last pulse was a period ago.
func TestBlank(t *testing.T) {
	blank := api.Mem{
		Since: 20, Pipe: "000000", Members: "0000", Seen: "0000", Heard: "0000", Sent: "0000",
		Ports: []api.Port{{Age: 3}, {Age: 3}, {Age: 3}, {Age: 3}}, Hold: []string{"", "", "", ""},
	}
	wantMem(t, "Blank", mem.Blank(samples.Small()), blank)
	blank.Since = 0
	wantMem(t, "Mend", mem.Mend(samples.Small(), api.Mem{}), blank)
	for _, c := range confs() {
		want := mendAsTold(c, api.Mem{})
		wantMem(t, "Mend", mem.Mend(c, api.Mem{}), want)
		want.Since = c.Period
		wantMem(t, "Blank", mem.Blank(c), want)
	}
}

// P28.1, P28.2, P28.3, P8: of what is not plain.
func TestNotPlain(t *testing.T) {
	long := strings.Repeat("x", 17)
	for _, c := range samples.Wrong() {
		e := conf.Plain(c)
		wantMem(t, "Blank", mem.Blank(c), api.Mem{})
		for _, m := range []api.Mem{{}, whole(), mem.Blank(samples.Small()), mem.Blank(c)} {
			wantMem(t, "Mend", mem.Mend(c, m), api.Mem{})
			wantWell(t, c, m, false)
			wantHost(t, c, m, "", api.Mem{}, e)
			wantHost(t, c, m, "ab", api.Mem{}, e)
			wantHost(t, c, m, long, api.Mem{}, e)
		}
	}
}

// P28.2: one part alone makes two memories differ.
func TestSameOfEachPart(t *testing.T) {
	wantSame(t, "a copy", whole(), copied(whole()), true)
	wantSame(t, "none", api.Mem{}, api.Mem{}, true)
	wantSame(t, "any", whole(), api.Mem{}, false)
	for what, part := range numbers() {
		for _, n := range append(samples.Wild(), 12) {
			a, b := whole(), whole()
			*part(&a) = n
			wantSame(t, what, a, b, *part(&b) == n)
			*part(&b) = n
			wantSame(t, what, a, b, true)
		}
	}
	for what, part := range texts() {
		for _, s := range samples.Marks() {
			a, b := whole(), whole()
			*part(&a) = s
			wantSame(t, what, a, b, *part(&b) == s)
			*part(&b) = s
			wantSame(t, what, a, b, true)
		}
	}
}

// P28.2: parts that stand for each other are not alike in another's place.
func TestSameOfSwappedParts(t *testing.T) {
	for one, a := range numbers() {
		for other, b := range numbers() {
			left, right := whole(), whole()
			*a(&left), *b(&right) = -7, -7
			wantSame(t, one+", "+other, left, right, one == other)
		}
	}
	for one, a := range texts() {
		for other, b := range texts() {
			left, right := whole(), whole()
			*a(&left), *b(&right) = "swapped", "swapped"
			wantSame(t, one+", "+other, left, right, one == other)
		}
	}
}

// P28.2: lists are alike if all their parts are; a nil one is one without elements.
func TestSameOfLists(t *testing.T) {
	changes := map[string]func(m *api.Mem){
		"a port more":      func(m *api.Mem) { m.Ports = append(m.Ports, api.Port{}) },
		"a port less":      func(m *api.Mem) { m.Ports = m.Ports[:3] },
		"no ports":         func(m *api.Mem) { m.Ports = nil },
		"ports turned":     func(m *api.Mem) { slices.Reverse(m.Ports) },
		"a frame more":     func(m *api.Mem) { m.Hold = append(m.Hold, "") },
		"a frame less":     func(m *api.Mem) { m.Hold = m.Hold[:3] },
		"no frames":        func(m *api.Mem) { m.Hold = nil },
		"frames turned":    func(m *api.Mem) { slices.Reverse(m.Hold) },
		"a note more":      func(m *api.Mem) { m.Log = append(m.Log, api.Entry{}) },
		"a note less":      func(m *api.Mem) { m.Log = m.Log[:2] },
		"no notes":         func(m *api.Mem) { m.Log = nil },
		"notes turned":     func(m *api.Mem) { slices.Reverse(m.Log) },
		"all notes of one": func(m *api.Mem) { m.Log[1].From = 1 },
	}
	for what, change := range changes {
		a, b := whole(), whole()
		change(&a)
		wantSame(t, what, a, b, false)
		change(&b)
		wantSame(t, what, a, b, true)
	}
	empty := api.Mem{Ports: []api.Port{}, Hold: []string{}, Log: []api.Entry{}}
	wantSame(t, "empty lists", empty, api.Mem{}, true)
	wantSame(t, "empty lists", empty, empty, true)
	wantSame(t, "one port", api.Mem{Ports: []api.Port{{}}}, empty, false)
	wantSame(t, "one frame", api.Mem{Hold: []string{""}}, api.Mem{}, false)
	wantSame(t, "one note", api.Mem{Log: []api.Entry{{}}}, empty, false)
}

// P28.2: of any two memories.
func TestSameAsTold(t *testing.T) {
	last := whole()
	lots(283, 20, func(c api.Conf, m api.Mem) {
		wantSame(t, "any two", m, last, alike(m, last))
		wantSame(t, "a copy", m, copied(m), true)
		last = m
	})
}

// P28.2
func TestWell(t *testing.T) {
	c := samples.Small()
	wantWell(t, c, whole(), true)
	wantWell(t, c, api.Mem{}, false)
	for _, log := range [][]api.Entry{nil, {}} {
		m := whole()
		m.Log, m.Vec, m.Agreed = log, "", ""
		wantWell(t, c, m, true)
	}
	wantWell(t, samples.Sized(7, 2, 1), whole(), false)
	lots(284, 60, func(c api.Conf, m api.Mem) {
		wantWell(t, c, m, alike(m, mendAsTold(c, m)))
		wantWell(t, c, mendAsTold(c, m), true)
	})
}

// P28.3: what is written, up to its greatest length; nothing else is changed.
func TestHost(t *testing.T) {
	c := samples.Small()
	for _, line := range []string{"", "a", "\x00\xff", strings.Repeat("x", 15), strings.Repeat("x", 16), strings.Repeat("é", 8)} {
		want := whole()
		want.Out = line
		wantHost(t, c, whole(), line, want, api.OK)
		wantHost(t, c, api.Mem{}, line, api.Mem{Out: line}, api.OK)
	}
	for _, line := range []string{strings.Repeat("x", 17), strings.Repeat("é", 8) + "a", strings.Repeat("é", 9), strings.Repeat("x", 5000)} {
		wantHost(t, c, whole(), line, api.Mem{}, api.ErrText)
		wantHost(t, c, api.Mem{}, line, api.Mem{}, api.ErrText)
	}
}

// P28.3: the other parts stay as they are, whatever they are.
func TestHostMendsNothing(t *testing.T) {
	lots(285, 20, func(c api.Conf, m api.Mem) {
		want := copied(m)
		want.Out = "hello"
		wantHost(t, c, m, "hello", want, api.OK)
	})
}

// P28.4: what was mended is well, and mending what is well changes nothing.
func TestMendedIsWell(t *testing.T) {
	for _, c := range confs() {
		wantWell(t, c, mem.Blank(c), true)
		wantMem(t, "Mend", mem.Mend(c, mem.Blank(c)), mem.Blank(c))
	}
	wantMem(t, "Mend", mem.Mend(samples.Small(), whole()), whole())
	lots(286, 60, func(c api.Conf, m api.Mem) {
		once := mem.Mend(c, m)
		wantWell(t, c, once, true)
		wantMem(t, "Mend", mem.Mend(c, once), once)
		wantSame(t, "mended twice", mem.Mend(c, once), once, true)
	})
}

// is tells whether a text is count bytes that are allowed.
func is(text string, count int, allowed string) bool {
	return len(text) == count && strings.Trim(text, allowed) == ""
}

// isWithin tells whether all parts of a memory are within their limits, straight from the chapter's words.
func isWithin(c api.Conf, m api.Mem) bool {
	in := func(n, most int) bool { return n >= 0 && n <= most }
	bits := 8 + c.N
	ok := in(m.Clock, 65535) && in(m.Anchor, 65535) && in(m.Since, c.Period) && in(m.Age, samples.Length(c)) && in(m.Number, c.Mod-1) && in(m.Regular, 2) &&
		is(m.Pipe, samples.Length(c), "012345") && (m.Vec == "" || is(m.Vec, bits, "012345")) && (m.Agreed == "" || is(m.Agreed, bits, "01")) &&
		is(m.Members, c.N, "01") && is(m.Seen, c.N, "01") && is(m.Heard, len(c.Table), "01") && is(m.Sent, len(c.Table), "01") &&
		len(m.Out) <= 16 && len(m.Line) <= 16 && len(m.Ports) == c.N && len(m.Hold) == c.N*c.D && len(m.Log) <= 64
	for _, p := range m.Ports {
		ok = ok && len(p.Text) <= 16 && in(p.Cycle, c.Mod-1) && in(p.Age, c.Fresh)
	}
	for _, frame := range m.Hold {
		ok = ok && len(frame) <= 40
	}
	for _, note := range m.Log {
		ok = ok && in(note.From, c.N-1) && in(note.At, 65535)
	}
	for _, count := range m.Diag {
		ok = ok && in(count, 65535)
	}
	return ok
}

// P28.4: within their limits, of memories of any kind.
func TestMendedIsWithinLimits(t *testing.T) {
	lots(287, 60, func(c api.Conf, m api.Mem) {
		if once := mem.Mend(c, m); !isWithin(c, once) {
			t.Errorf("%v: %+v", c, once)
		}
		wantWell(t, c, m, isWithin(c, m))
	})
}

// P28.4: what the host writes leaves a memory as well as it was.
func TestHostLeavesItWell(t *testing.T) {
	lots(288, 20, func(c api.Conf, m api.Mem) {
		if len(m.Out) <= 16 {
			written, _ := mem.Host(c, m, "hello")
			wantWell(t, c, written, mem.Well(c, m))
		}
		written, _ := mem.Host(c, mem.Mend(c, m), strings.Repeat("z", 16))
		wantWell(t, c, written, true)
	})
}

// roomy is a memory whose lists have something behind their ends.
func roomy() api.Mem {
	m := whole()
	m.Ports = append(m.Ports, api.Port{Text: "behind"})[:4]
	m.Hold = append(m.Hold, "behind")[:4]
	m.Log = append(m.Log, api.Entry{From: 2, At: 99})[:3]
	return m
}

// behind is a memory's lists with what stands behind their ends.
func behind(m api.Mem) api.Mem {
	return copied(api.Mem{Ports: m.Ports[:5], Hold: m.Hold[:5], Log: m.Log[:4]})
}

// spoil writes into a memory's lists, and behind their ends.
func spoil(m api.Mem) {
	_ = append(m.Ports, api.Port{Text: "spoilt"})
	_ = append(m.Hold, "spoilt")
	_ = append(m.Log, api.Entry{From: 9, At: 9})
	clear(m.Ports)
	clear(m.Hold)
	clear(m.Log)
}

// answers are what the calls that answer a memory make of m, which is not blank.
func answers(m api.Mem) []api.Mem {
	c := samples.Small()
	written, _ := mem.Host(c, m, m.Out)
	return []api.Mem{mem.Mend(c, m), written}
}

// Rules 4 and 5: lists that are handed in are not changed, nor kept or shared, not even behind their ends.
func TestListsAreOwn(t *testing.T) {
	for i := range answers(roomy()) {
		m := roomy()
		before := behind(m)
		spoil(answers(m)[i])
		wantMem(t, "handed in", behind(m), before)
		answer := answers(m)[i]
		spoil(m)
		wantMem(t, "answered", answer, whole())
	}
	m := roomy()
	before := behind(m)
	mem.Same(m, m)
	mem.Well(samples.Small(), m)
	wantMem(t, "handed in", behind(m), before)
}

// Rules 4 and 5: blank lists are new each time, and an empty list leads to none that was handed in.
func TestBlankListsAreNew(t *testing.T) {
	c := samples.Small()
	for _, blank := range []func() api.Mem{func() api.Mem { return mem.Blank(c) }, func() api.Mem { return mem.Mend(c, api.Mem{}) }} {
		want := copied(blank())
		spoil(blank())
		wantMem(t, "blank", blank(), want)
	}
	m := roomy()
	before := behind(m)
	empty := m
	empty.Ports, empty.Hold, empty.Log = m.Ports[:0], m.Hold[:0], m.Log[:0]
	for _, answer := range answers(empty) {
		spoil(answer)
	}
	wantMem(t, "handed in", behind(m), before)
}

// Rule 5: a table that is written into later changes no answer.
func TestTableIsNotKept(t *testing.T) {
	c := samples.Small()
	answer := mem.Mend(c, whole())
	c.Table[0], c.Table[3] = 9, 9
	wantMem(t, "Mend", answer, whole())
}
