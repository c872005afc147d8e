package packet_test

import (
	"math"
	"math/rand"
	"slices"
	"strings"
	"testing"

	"bellwether/api"
	"bellwether/conf"
	"bellwether/packet"
)

// small is a configuration that is plain: 6 exchanges, 12 bits, 4 slots, numbers up to 9.
func small() api.Conf {
	return api.Conf{N: 4, F: 1, D: 1, Period: 20, Rate: 64, Drift: 1, Offset: 64, Slot: 190, Mod: 10, Fresh: 3, Table: []int{0, 1, 2, 3}}
}

// sized is a plain configuration with the longest period and the greatest Mod.
func sized(n, f, d, slots int) api.Conf {
	c := api.Conf{N: n, F: f, D: d, Period: api.MaxPeriod, Rate: 64, Offset: 64, Slot: 190, Mod: api.MaxMod, Fresh: 3}
	for slot := range slots {
		c.Table = append(c.Table, slot%n)
	}
	return c
}

// confs are plain configurations, small ones and the greatest one.
func confs() []api.Conf {
	return []api.Conf{small(), sized(4, 0, 1, 4), sized(7, 2, 4, 9), sized(13, 4, 3, 32)}
}

// full is a packet with everything in it, that is right of small.
func full() api.Packet {
	return api.Packet{Votes: "012000", Ex: 6, Vec: "012012012012", Slot: 4, Cycle: 9, Text: "0123456789abcdef"}
}

// silent is a packet without a message that is right of small.
func silent() api.Packet {
	return api.Packet{Votes: "012000", Ex: 6, Vec: "012012012012"}
}

// wildNumbers are numbers at which a call might go wrong.
func wildNumbers() []int {
	return []int{math.MinInt, math.MinInt + 1, -1 << 32, -65536, -2, -1, 0, 1, 3, 5, 6, 7, 11, 12, 31, 32, 33, 65534, 65535, 65536, 65537, 1 << 32, math.MaxInt - 1, math.MaxInt}
}

// wildTexts are texts of any kind: runes of several bytes, broken ones, digits of other scripts.
func wildTexts() []string {
	return []string{
		"", "0", "2", "3", "/", ":", "00000", "000000", "0000000", "111111", "210210", "012003", " 00000", "00000\n", "00000\x00", "+12000",
		"é0000", "00é00", "0000é", "٠٠٠", "０００", "000０", "\U0001d7d800", "\xff00000", "00000\xff", "\xc3\xc3\xc3\xc3\xc3\xc3", "\xef\xbf\xbd000", "\xe2\x8200\xb00",
		"012012012012", "01201201201", "0120120120120", "012012\xc3\xa92012", "０１２0", "############", strings.Repeat("0", 1000),
	}
}

func wantRight(t *testing.T, c api.Conf, p api.Packet, want api.Errno) {
	t.Helper()
	if e := packet.Right(c, p); e != want {
		t.Errorf("Right(%#v, %#v): %d, not %d", c, p, e, want)
	}
}

// with is full, turned.
func with(turn func(p *api.Packet)) api.Packet {
	p := full()
	turn(&p)
	return p
}

// P10.1: packets that are right.
func TestRight(t *testing.T) {
	c := small()
	for _, p := range []api.Packet{
		full(), silent(), {Votes: "000000"}, {Votes: "222222"}, {Votes: "000000", Ex: 1, Vec: "222222222222"},
		{Votes: "000000", Slot: 1}, {Votes: "000000", Slot: 1, Cycle: 9}, {Votes: "000000", Slot: 4, Text: "x"},
		{Votes: "000000", Slot: 2, Cycle: 3, Text: "\x00\xffé\n"},
	} {
		wantRight(t, c, p, api.OK)
	}
}

// P10.1: conf.Plain's error, ahead of all others.
func TestRightConf(t *testing.T) {
	for e, turn := range map[api.Errno]func(c *api.Conf){
		api.ErrNode: func(c *api.Conf) { c.N = 3 },
		api.ErrLate: func(c *api.Conf) { c.D = 5 },
		api.ErrConf: func(c *api.Conf) { c.Mod = 251 },
		api.ErrSlot: func(c *api.Conf) { c.Table = nil },
	} {
		c := small()
		turn(&c)
		for _, p := range []api.Packet{full(), {}, {Votes: "3", Ex: -1, Vec: "x", Slot: -1, Cycle: -1, Text: strings.Repeat("x", 17)}} {
			wantRight(t, c, p, e)
		}
	}
	wantRight(t, api.Conf{}, full(), api.ErrNode)
}

// P10.1: of all bytes at all places only 0, 1 and 2 are digits, of votes and of the cycle's part.
func TestRightDigits(t *testing.T) {
	c := small()
	for b := range 256 {
		form, word := api.ErrForm, api.ErrWord
		if b >= 48 && b <= 50 {
			form, word = api.OK, api.OK
		}
		for at := range 12 {
			put := func(s string) string { return s[:at] + string([]byte{byte(b)}) + s[at+1:] }
			if at < 6 {
				wantRight(t, c, with(func(p *api.Packet) { p.Votes = put(p.Votes) }), form)
			}
			wantRight(t, c, with(func(p *api.Packet) { p.Vec = put(p.Vec) }), word)
		}
	}
}

// P10.1: texts that have as many bytes, or as many runes, but not as many digits.
func TestRightTexts(t *testing.T) {
	c := small()
	for _, s := range wildTexts() {
		form, word := api.ErrForm, api.ErrWord
		if slices.Contains([]string{"000000", "111111", "210210"}, s) {
			form = api.OK
		}
		if s == "012012012012" {
			word = api.OK
		}
		wantRight(t, c, with(func(p *api.Packet) { p.Votes = s }), form)
		wantRight(t, c, with(func(p *api.Packet) { p.Vec = s }), word)
	}
}

// P10.1: just as many votes as exchanges, and as many digits as bits, of each configuration.
func TestRightLengths(t *testing.T) {
	for _, c := range confs() {
		rounds, bits := 3*(c.F+1), 8+c.N
		for n := range 40 {
			votes, vec := api.ErrForm, api.ErrWord
			if n == rounds {
				votes = api.OK
			}
			if n == bits {
				vec = api.OK
			}
			wantRight(t, c, api.Packet{Votes: strings.Repeat("1", n)}, votes)
			wantRight(t, c, api.Packet{Votes: strings.Repeat("1", rounds), Ex: rounds, Vec: strings.Repeat("2", n)}, vec)
		}
	}
}

// P10.1: Ex from 0 to the exchanges; with 0 there is no part of the cycle's instance, else there is.
func TestRightEx(t *testing.T) {
	for _, c := range confs() {
		rounds, bits := 3*(c.F+1), 8+c.N
		for _, ex := range append(wildNumbers(), 2, 4, 8, 9, 10, 14, 15, 16) {
			p := api.Packet{Votes: strings.Repeat("1", rounds), Ex: ex, Vec: strings.Repeat("2", bits)}
			bare := p
			bare.Vec = ""
			want, wantBare := api.ErrWord, api.ErrWord
			if ex >= 1 && ex <= rounds {
				want = api.OK
			}
			if ex == 0 {
				wantBare = api.OK
			}
			wantRight(t, c, p, want)
			wantRight(t, c, bare, wantBare)
		}
	}
	wantRight(t, small(), with(func(p *api.Packet) { p.Ex, p.Vec = 0, "0" }), api.ErrWord)
}

// P10.1: a slot and one more, from 0 to how many there are; the number from 0 to Mod - 1.
func TestRightSlotAndCycle(t *testing.T) {
	for _, c := range confs() {
		votes := packet.Blank(c).Votes
		for _, n := range append(wildNumbers(), 2, 4, 9, 10, 13, 248, 249, 250, 251) {
			slot, cycle := api.ErrSlot, api.ErrArg
			if n >= 0 && n <= len(c.Table) {
				slot = api.OK
			}
			if n >= 0 && n < c.Mod {
				cycle = api.OK
			}
			wantRight(t, c, api.Packet{Votes: votes, Slot: n}, slot)
			wantRight(t, c, api.Packet{Votes: votes, Slot: 1, Cycle: n}, cycle)
		}
	}
}

// P10.1: without a slot there is neither a number nor a text, of whatever length.
func TestRightNoMessage(t *testing.T) {
	c := small()
	for _, cycle := range []int{-1, 1, 9, 10} {
		wantRight(t, c, with(func(p *api.Packet) { p.Slot, p.Cycle, p.Text = 0, cycle, "" }), api.ErrArg)
	}
	for _, n := range []int{1, 16, 17} {
		wantRight(t, c, with(func(p *api.Packet) { p.Slot, p.Cycle, p.Text = 0, 0, strings.Repeat("x", n) }), api.ErrArg)
	}
	wantRight(t, c, with(func(p *api.Packet) { p.Slot, p.Cycle, p.Text = 0, 0, "" }), api.OK)
}

// P10.1: a text is measured by its bytes.
func TestRightText(t *testing.T) {
	c := small()
	for _, x := range []struct {
		text string
		want api.Errno
	}{
		{"", api.OK}, {strings.Repeat("x", 16), api.OK}, {strings.Repeat("x", 17), api.ErrText}, {strings.Repeat("é", 8), api.OK},
		{strings.Repeat("é", 9), api.ErrText}, {strings.Repeat("\xff", 16), api.OK}, {strings.Repeat("\xff", 17), api.ErrText}, {strings.Repeat("\x00", 5000), api.ErrText},
	} {
		wantRight(t, c, with(func(p *api.Packet) { p.Text = x.text }), x.want)
	}
}

// P10.1, P8: of several faults the one that the chapter names first is told, each in its turn.
func TestRightOrder(t *testing.T) {
	long := strings.Repeat("x", 17)
	p := api.Packet{Votes: "01200", Ex: 7, Vec: "0", Slot: 5, Cycle: 10, Text: long}
	for _, x := range []struct {
		mend func()
		want api.Errno
	}{
		{func() {}, api.ErrForm},
		{func() { p.Votes = "012003" }, api.ErrForm},
		{func() { p.Votes = "012000" }, api.ErrWord},
		{func() { p.Ex = 0 }, api.ErrWord},
		{func() { p.Ex = 6 }, api.ErrWord},
		{func() { p.Vec = "012012012012" }, api.ErrSlot},
		{func() { p.Slot = 0 }, api.ErrArg},
		{func() { p.Cycle = 9 }, api.ErrArg},
		{func() { p.Cycle = 0 }, api.ErrArg},
		{func() { p.Slot, p.Cycle = 4, -1 }, api.ErrArg},
		{func() { p.Cycle = 0 }, api.ErrText},
		{func() { p.Text = long[:16] }, api.OK},
	} {
		x.mend()
		wantRight(t, small(), p, x.want)
	}
}

// P10.2
func TestBlank(t *testing.T) {
	for _, c := range confs() {
		if got := packet.Blank(c); got != (api.Packet{Votes: strings.Repeat("0", 3*(c.F+1))}) {
			t.Errorf("Blank(%#v): %#v", c, got)
		}
	}
	wrong := small()
	wrong.Period = 12
	for _, c := range []api.Conf{{}, wrong, {N: math.MaxInt, F: math.MaxInt, D: math.MaxInt}, {N: math.MinInt, F: math.MinInt}} {
		if got := packet.Blank(c); got != (api.Packet{}) {
			t.Errorf("Blank(%#v): %#v", c, got)
		}
	}
}

// wantDigits holds a call that tells digits of s to the chapter, at all places of s and beyond it.
func wantDigits(t *testing.T, call, s string, at func(k int) int) {
	t.Helper()
	places := wildNumbers()
	for k := range len(s) + 2 {
		places = append(places, k)
	}
	for _, k := range places {
		want := -1
		if k >= 0 && k < len(s) && s[k] >= 48 && s[k] <= 50 {
			want = int(s[k]) - 48
		}
		if got := at(k); got != want {
			t.Errorf("%s of %q at %d: %d, not %d", call, s, k, got, want)
		}
	}
}

// P10.2, the chapter's example among them.
func TestVote(t *testing.T) {
	p := api.Packet{Votes: "012000"}
	for x, want := range []int{0, 1, 2, 0, 0, 0, -1, -1} {
		if got := packet.Vote(p, x); got != want {
			t.Errorf("Vote at %d: %d, not %d", x, got, want)
		}
	}
	for _, s := range wildTexts() {
		p := api.Packet{Votes: s, Ex: 1, Vec: "111111111111", Text: "222222"}
		wantDigits(t, "Vote", s, func(k int) int { return packet.Vote(p, k) })
	}
}

// P10.2: places of the cycle's part, of the exchange that is told.
func TestBit(t *testing.T) {
	for _, s := range wildTexts() {
		for _, x := range []int{0, 1, 5, 65534, 65535} {
			p := api.Packet{Votes: "111111", Ex: x + 1, Vec: s, Text: "222222"}
			wantDigits(t, "Bit", s, func(k int) int { return packet.Bit(p, x, k) })
		}
	}
}

// P10.2: of another exchange than the one that is told there is no digit; nor is there one of an exchange beyond its limits, whatever Ex says.
func TestBitExchange(t *testing.T) {
	for _, x := range wildNumbers() {
		for _, ex := range wildNumbers() {
			for _, step := range []int{ex, x, x + 1, x - 1} { // x + 1 of the greatest number is the least one: it must not be taken for the next
				want := -1
				if x >= 0 && x <= 65535 && step == x+1 {
					want = 2
				}
				if got := packet.Bit(api.Packet{Ex: step, Vec: "012"}, x, 2); got != want {
					t.Errorf("Bit of Ex %d at %d: %d, not %d", step, x, got, want)
				}
			}
		}
	}
	if packet.Bit(api.Packet{Vec: "111"}, -1, 0) != -1 || packet.Bit(api.Packet{Ex: math.MinInt, Vec: "111"}, math.MaxInt, 0) != -1 || packet.Bit(api.Packet{}, 0, 0) != -1 {
		t.Error("a digit of no exchange")
	}
}

// P10.3: nothing but the message goes.
func TestStrip(t *testing.T) {
	if got := packet.Strip(full()); got != silent() {
		t.Errorf("Strip: %#v", got)
	}
	if got := packet.Strip(api.Packet{}); got != (api.Packet{}) {
		t.Errorf("Strip of nothing: %#v", got)
	}
	for _, p := range []api.Packet{
		{Votes: "\xff", Ex: math.MinInt, Vec: "é", Slot: math.MaxInt, Cycle: math.MinInt, Text: strings.Repeat("x", 99)},
		{Votes: "x", Ex: 7, Cycle: 3}, {Vec: "x", Text: "y"}, {Slot: -1},
	} {
		if got := packet.Strip(p); got != (api.Packet{Votes: p.Votes, Ex: p.Ex, Vec: p.Vec}) {
			t.Errorf("Strip(%#v): %#v", p, got)
		}
	}
}

// P10.3: in the place of a message, or where there was none; of slots beyond the last that there can be it is stripped.
func TestCarry(t *testing.T) {
	for _, p := range []api.Packet{full(), silent(), {}, {Votes: "\xff", Ex: -5, Vec: "x", Slot: -9, Cycle: math.MaxInt, Text: "y"}} {
		for _, slot := range append(wildNumbers(), 2, 4, 15, 30) {
			for _, cycle := range wildNumbers() {
				for _, text := range []string{"", "z", "\xffé", strings.Repeat("x", 40)} {
					want := api.Packet{Votes: p.Votes, Ex: p.Ex, Vec: p.Vec}
					if slot >= 0 && slot <= 31 {
						want.Slot, want.Cycle, want.Text = slot+1, cycle, text
					}
					if got := packet.Carry(p, slot, cycle, text); got != want {
						t.Errorf("Carry(%#v, %d, %d, %q): %#v", p, slot, cycle, text, got)
					}
				}
			}
		}
	}
}

// digits is n digits by chance.
func digits(source *rand.Rand, n int) string {
	out := make([]byte, n)
	for i := range out {
		out[i] = byte(48 + source.Intn(3))
	}
	return string(out)
}

// drawn is a packet that is right of c.
func drawn(source *rand.Rand, c api.Conf) api.Packet {
	p := api.Packet{Votes: digits(source, conf.Rounds(c)), Ex: source.Intn(conf.Rounds(c) + 1), Slot: source.Intn(len(c.Table) + 1)}
	if p.Ex != 0 {
		p.Vec = digits(source, conf.Bits(c))
	}
	if p.Slot != 0 {
		p.Cycle, p.Text = source.Intn(c.Mod), strings.Repeat("\xff", source.Intn(17))
	}
	return p
}

// P10.4: Blank is right; so is what was right without its message, and with another one that may be; what is carried is stripped; votes stay.
func TestWhatFollows(t *testing.T) {
	source := rand.New(rand.NewSource(10))
	for _, c := range confs() {
		wantRight(t, c, packet.Blank(c), api.OK)
		for range 500 {
			p := drawn(source, c)
			wantRight(t, c, p, api.OK)
			bare := packet.Strip(p)
			wantRight(t, c, bare, api.OK)
			slot, cycle := source.Intn(len(c.Table)), source.Intn(c.Mod)
			carried := packet.Carry(p, slot, cycle, "again")
			wantRight(t, c, carried, api.OK)
			wantRight(t, c, packet.Carry(p, slot, c.Mod, "again"), api.ErrArg)
			wantRight(t, c, packet.Carry(p, slot, cycle, strings.Repeat("x", 17)), api.ErrText)
			if packet.Strip(carried) != bare || packet.Strip(bare) != bare || packet.Carry(bare, slot, cycle, "again") != carried {
				t.Fatalf("%#v: stripped %#v, carried %#v", p, bare, carried)
			}
			for x := range conf.Rounds(c) + 1 {
				if v := packet.Vote(p, x); packet.Vote(bare, x) != v || packet.Vote(carried, x) != v {
					t.Fatalf("the vote at %d of %#v does not stay", x, p)
				}
				for k := range conf.Bits(c) + 1 {
					if b := packet.Bit(p, x, k); packet.Bit(bare, x, k) != b || packet.Bit(carried, x, k) != b {
						t.Fatalf("the bit at %d, %d of %#v does not stay", x, k, p)
					}
				}
			}
		}
	}
}

// P10.4: what was carried is stripped to what it was carried on, whatever that is.
func TestCarriedIsStripped(t *testing.T) {
	for _, votes := range wildTexts() {
		for _, n := range wildNumbers() {
			p := api.Packet{Votes: votes, Ex: n, Vec: votes, Slot: n, Cycle: n, Text: votes}
			carried := packet.Carry(p, n, n, votes)
			if packet.Strip(carried) != packet.Strip(p) || carried.Votes != votes || carried.Vec != votes || carried.Ex != n {
				t.Errorf("%#v: carried %#v", p, carried)
			}
		}
	}
}

// Rules 4 and 6: the table that is handed in is not changed, and the same is answered again.
func TestTableStays(t *testing.T) {
	c := small()
	for range 3 {
		wantRight(t, c, full(), api.OK)
		packet.Blank(c)
	}
	if !slices.Equal(c.Table, []int{0, 1, 2, 3}) {
		t.Error("changed:", c.Table)
	}
}
