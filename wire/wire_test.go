package wire_test

import (
	"encoding/binary"
	"hash/crc32"
	"math"
	"math/rand"
	"slices"
	"strings"
	"testing"

	"bellwether/api"
	"bellwether/packet"
	"bellwether/wire"
)

// small is a configuration that is plain: 6 exchanges, 12 bits, 4 slots, numbers up to 9.
func small() api.Conf {
	return api.Conf{N: 4, F: 1, D: 1, Period: 20, Rate: 64, Drift: 1, Offset: 64, Slot: 190, Mod: 10, Fresh: 3, Table: []int{0, 1, 2, 3}}
}

// sized is a plain configuration with the longest period and the greatest Mod.
func sized(n, f, slots int) api.Conf {
	c := api.Conf{N: n, F: f, D: 1, Period: api.MaxPeriod, Rate: 64, Offset: 64, Slot: 190, Mod: api.MaxMod, Fresh: 3}
	for slot := range slots {
		c.Table = append(c.Table, slot%n)
	}
	return c
}

// confs are plain configurations: of each number of digits that can be left in a last byte, and the greatest one.
func confs() []api.Conf {
	return []api.Conf{small(), sized(4, 0, 4), sized(5, 0, 7), sized(7, 2, 9), sized(10, 3, 10), sized(11, 3, 30), sized(13, 4, 32)}
}

// sealed is what stands on the wire of a body, by the library's own sum.
func sealed(body string) string {
	return body + string(binary.LittleEndian.AppendUint32(nil, crc32.ChecksumIEEE([]byte(body))))
}

// packed is digits as bytes, reckoned as a number of base 4 for each byte.
func packed(digits string) string {
	var out []byte
	for part := range slices.Chunk([]byte(digits), 4) {
		n := 0
		for _, d := range slices.Backward(part) {
			n = 4*n + int(d) - 48
		}
		out = append(out, byte(n))
	}
	return string(out)
}

// bodyOf is the chapter's bytes of a packet, ahead of the sum.
func bodyOf(p api.Packet) string {
	out := []byte{64}
	out = append(out, packed(p.Votes)...)
	if p.Ex != 0 {
		out[0] |= 1
		out = append(append(out, byte(p.Ex)), packed(p.Vec)...)
	}
	if p.Slot != 0 {
		out[0] |= 2
		out = append(append(out, byte(p.Slot), byte(p.Cycle), byte(len(p.Text))), p.Text...)
	}
	return string(out)
}

// isPacked tells whether bytes are n packed digits, asked bit by bit.
func isPacked(s string, n int) bool {
	for bit := range 8 * len(s) {
		set := s[bit/8]>>(bit%8)&1 == 1
		if set && bit/2 >= n {
			return false
		}
		if set && bit%2 == 1 && s[bit/8]>>(bit%8-1)&1 == 1 {
			return false
		}
	}
	return true
}

// isBody tells whether a body is some right packet's, without asking the package.
func isBody(c api.Conf, body string) bool {
	rounds, bits := 3*(c.F+1), 8+c.N
	votes, vec := (rounds+3)/4, (bits+3)/4
	if len(body) < 1+votes || body[0] < 64 || body[0] > 67 || !isPacked(body[1:1+votes], rounds) {
		return false
	}
	rest := body[1+votes:]
	if body[0]&1 == 1 {
		if len(rest) < 1+vec || rest[0] < 1 || int(rest[0]) > rounds || !isPacked(rest[1:1+vec], bits) {
			return false
		}
		rest = rest[1+vec:]
	}
	if body[0]&2 == 0 {
		return rest == ""
	}
	return len(rest) >= 3 && rest[0] >= 1 && int(rest[0]) <= len(c.Table) && int(rest[1]) < c.Mod && rest[2] <= 16 && len(rest) == 3+int(rest[2])
}

func wantBytes(t *testing.T, c api.Conf, p api.Packet, body string) {
	t.Helper()
	want := sealed(body)
	if s, e := wire.Encode(c, p); s != want || e != api.OK {
		t.Errorf("Encode(%#v): %q %d, not %q", p, s, e, want)
	}
	if n := wire.Size(c, p); n != len(want) {
		t.Errorf("Size(%#v): %d, not %d", p, n, len(want))
	}
	if back, e := wire.Decode(c, want); back != p || e != api.OK {
		t.Errorf("Decode(%q): %#v %d, not %#v", want, back, e, p)
	}
}

func wantNoBytes(t *testing.T, c api.Conf, p api.Packet, want api.Errno) {
	t.Helper()
	if s, e := wire.Encode(c, p); s != "" || e != want {
		t.Errorf("Encode(%#v): %q %d, not %d", p, s, e, want)
	}
	if n := wire.Size(c, p); n != 0 {
		t.Errorf("Size(%#v): %d", p, n)
	}
}

func wantNoPacket(t *testing.T, c api.Conf, s string, want api.Errno) {
	t.Helper()
	if p, e := wire.Decode(c, s); p != (api.Packet{}) || e != want {
		t.Errorf("Decode(%q): %#v %d, not %d", s, p, e, want)
	}
}

// P11.1, P11.2, written out byte by byte; the chapter's example comes first.
func TestBytes(t *testing.T) {
	c := small()
	for _, x := range []struct {
		p    api.Packet
		body []byte
	}{
		{api.Packet{Votes: "000000"}, []byte{64, 0, 0}},
		{api.Packet{Votes: "100000"}, []byte{64, 1, 0}},
		{api.Packet{Votes: "020000"}, []byte{64, 8, 0}},
		{api.Packet{Votes: "000120"}, []byte{64, 64, 2}},
		{api.Packet{Votes: "222222"}, []byte{64, 170, 10}},
		{api.Packet{Votes: "111111", Ex: 1, Vec: "000000000000"}, []byte{65, 85, 5, 1, 0, 0, 0}},
		{api.Packet{Votes: "000000", Ex: 6, Vec: "122000010002"}, []byte{65, 0, 0, 6, 41, 64, 128}},
		{api.Packet{Votes: "000000", Slot: 1}, []byte{66, 0, 0, 1, 0, 0}},
		{api.Packet{Votes: "000000", Slot: 4, Cycle: 9, Text: "\x00\xffx"}, []byte{66, 0, 0, 4, 9, 3, 0, 255, 120}},
		{api.Packet{Votes: "000000", Slot: 2, Cycle: 3, Text: "0123456789abcdef"}, append([]byte{66, 0, 0, 2, 3, 16}, "0123456789abcdef"...)},
		{api.Packet{Votes: "210210", Ex: 2, Vec: "111111111111", Slot: 3, Cycle: 7, Text: "é"}, []byte{67, 134, 1, 2, 85, 85, 85, 3, 7, 2, 195, 169}},
	} {
		wantBytes(t, c, x.p, string(x.body))
	}
}

// P11.1: the bytes of the chapter's example with its sum written out, so that they hang on no other reckoning.
func TestSum(t *testing.T) {
	want := string([]byte{64, 0, 0, 210, 84, 219, 143})
	if s, e := wire.Encode(small(), packet.Blank(small())); s != want || e != api.OK {
		t.Errorf("%q %d, not %q", s, e, want)
	}
}

// P11.1, P11.2: each exchange, slot, number and length of a text is a byte of its own.
func TestEachNumber(t *testing.T) {
	for _, c := range confs() {
		blank := packet.Blank(c)
		for ex := 1; ex <= len(blank.Votes); ex++ {
			p := blank
			p.Ex, p.Vec = ex, strings.Repeat("2", 8+c.N)
			wantBytes(t, c, p, bodyOf(p))
		}
		for slot := range len(c.Table) {
			p := packet.Carry(blank, slot, c.Mod-1, "")
			wantBytes(t, c, p, bodyOf(p))
		}
		for cycle := range c.Mod {
			p := packet.Carry(blank, 0, cycle, "x")
			wantBytes(t, c, p, bodyOf(p))
		}
		for n := range 17 {
			p := packet.Carry(blank, 1, 0, strings.Repeat("\xff", n))
			wantBytes(t, c, p, bodyOf(p))
		}
	}
}

// P11.1: each error of packet.Right, and none of the bytes with it.
func TestEncodeRefuses(t *testing.T) {
	c := small()
	full := api.Packet{Votes: "012000", Ex: 6, Vec: "012012012012", Slot: 4, Cycle: 9, Text: "0123456789abcdef"}
	for _, x := range []struct {
		turn func(p *api.Packet)
		want api.Errno
	}{
		{func(p *api.Packet) { *p = api.Packet{} }, api.ErrForm},
		{func(p *api.Packet) { p.Votes = "01200" }, api.ErrForm},
		{func(p *api.Packet) { p.Votes = "0120000" }, api.ErrForm},
		{func(p *api.Packet) { p.Votes = "012003" }, api.ErrForm},
		{func(p *api.Packet) { p.Votes, p.Ex, p.Slot = "\xff", -1, -1 }, api.ErrForm},
		{func(p *api.Packet) { p.Ex = 7 }, api.ErrWord},
		{func(p *api.Packet) { p.Ex = 0 }, api.ErrWord},
		{func(p *api.Packet) { p.Ex = 262 }, api.ErrWord},
		{func(p *api.Packet) { p.Ex, p.Slot = math.MinInt, 5 }, api.ErrWord},
		{func(p *api.Packet) { p.Vec = "" }, api.ErrWord},
		{func(p *api.Packet) { p.Vec = "01201201201é" }, api.ErrWord},
		{func(p *api.Packet) { p.Slot, p.Cycle = 5, 10 }, api.ErrSlot},
		{func(p *api.Packet) { p.Slot = -1 }, api.ErrSlot},
		{func(p *api.Packet) { p.Slot = 260 }, api.ErrSlot},
		{func(p *api.Packet) { p.Slot = 0 }, api.ErrArg},
		{func(p *api.Packet) { p.Cycle = 10 }, api.ErrArg},
		{func(p *api.Packet) { p.Cycle = -1 }, api.ErrArg},
		{func(p *api.Packet) { p.Cycle = math.MaxInt; p.Text += "x" }, api.ErrArg},
		{func(p *api.Packet) { p.Text += "x" }, api.ErrText},
		{func(p *api.Packet) { p.Text = strings.Repeat("x", 272) }, api.ErrText},
	} {
		p := full
		x.turn(&p)
		wantNoBytes(t, c, p, x.want)
	}
	wantBytes(t, c, full, bodyOf(full))
}

// wrongConfs are configurations that are not plain, with their errors.
func wrongConfs() map[api.Errno]api.Conf {
	out := map[api.Errno]api.Conf{}
	for e, turn := range map[api.Errno]func(c *api.Conf){
		api.ErrNode: func(c *api.Conf) { c.N = 3 },
		api.ErrLate: func(c *api.Conf) { c.D = 5 },
		api.ErrConf: func(c *api.Conf) { c.Mod = 251 },
		api.ErrSlot: func(c *api.Conf) { c.Table = nil },
	} {
		c := small()
		turn(&c)
		out[e] = c
	}
	return out
}

// P11.1, P11.2: conf.Plain's error, ahead of all others.
func TestConfFirst(t *testing.T) {
	blank := packet.Blank(small())
	for e, c := range wrongConfs() {
		wantNoBytes(t, c, blank, e)
		wantNoBytes(t, c, api.Packet{}, e)
		for _, s := range []string{"", "abc", "\x40\x00\x00abcd", sealed(bodyOf(blank)), sealed(""), strings.Repeat("x", 41), strings.Repeat("x", 5000)} {
			wantNoPacket(t, c, s, e)
		}
	}
	for _, n := range []int{math.MinInt, -1, 0, math.MaxInt} {
		c := api.Conf{N: n, F: n, D: n, Period: n, Rate: n, Drift: n, Offset: n, Slot: n, Mod: n, Fresh: n, Table: []int{n}}
		wantNoBytes(t, c, blank, api.ErrNode)
		wantNoPacket(t, c, "", api.ErrNode)
	}
}

// P11.2: ErrLong, ErrShort, ErrSum, ErrForm, each ahead of those behind it, at their edges.
func TestDecodeOrder(t *testing.T) {
	c := small()
	body := func(n int) string { return "\x40" + strings.Repeat("\x00", n-1) }
	for _, s := range []string{sealed(body(37)), body(41), strings.Repeat("\xff", 41), sealed(body(4000))} {
		wantNoPacket(t, c, s, api.ErrLong)
	}
	for _, s := range []string{"", "\x00", "ab", "\x40\x00\x00"} {
		wantNoPacket(t, c, s, api.ErrShort)
	}
	for _, s := range []string{"\x00\x00\x00\x01", "\x40\x00\x00\x00\x00\x00\x00", strings.Repeat("x", 40), body(40), sealed(body(3)) + "\x00", sealed(body(3))[:6]} {
		wantNoPacket(t, c, s, api.ErrSum)
	}
	for _, s := range []string{"\x00\x00\x00\x00", sealed(body(36)), sealed(body(1)), sealed(body(2)), sealed(body(4)), sealed(sealed(body(3)))} {
		wantNoPacket(t, c, s, api.ErrForm)
	}
	wantBytes(t, c, packet.Blank(c), body(3))
}

// P11.2: bodies that are nearly a packet's: each part cut, grown, or beyond its limit.
func TestDecodeRefuses(t *testing.T) {
	c := small()
	for _, body := range [][]byte{
		{}, {0}, {64}, {64, 0}, {0, 0, 0}, {63, 0, 0}, {68, 0, 0}, {72, 0, 0}, {192, 0, 0}, {255, 0, 0}, {64, 0, 0, 0},
		{64, 3, 0}, {64, 12, 0}, {64, 48, 0}, {64, 192, 0}, {64, 0, 3}, {64, 0, 12}, {64, 0, 16}, {64, 0, 32}, {64, 0, 64}, {64, 0, 128},
		{65, 0, 0}, {65, 0, 0, 1}, {65, 0, 0, 1, 0, 0}, {65, 0, 0, 0, 0, 0, 0}, {65, 0, 0, 7, 0, 0, 0}, {65, 0, 0, 255, 0, 0, 0},
		{65, 0, 0, 1, 3, 0, 0}, {65, 0, 0, 1, 0, 0, 192}, {65, 0, 0, 1, 0, 0, 0, 0}, {65, 0, 0, 0}, {64, 0, 0, 1, 0, 0, 0},
		{66, 0, 0}, {66, 0, 0, 1}, {66, 0, 0, 1, 0}, {66, 0, 0, 0, 0, 0}, {66, 0, 0, 5, 0, 0}, {66, 0, 0, 255, 0, 0}, {66, 0, 0, 1, 10, 0}, {66, 0, 0, 1, 255, 0},
		{66, 0, 0, 1, 0, 1}, {66, 0, 0, 1, 0, 2, 65}, {66, 0, 0, 1, 0, 0, 65}, {66, 0, 0, 1, 0, 1, 65, 65}, {66, 0, 0, 1, 0, 255}, {64, 0, 0, 1, 0, 0},
		append([]byte{66, 0, 0, 1, 0, 17}, make([]byte, 17)...), append([]byte{66, 0, 0, 1, 0, 16}, make([]byte, 15)...), append([]byte{66, 0, 0, 1, 0, 16}, make([]byte, 17)...),
		{67, 0, 0, 1, 0, 0, 0}, {67, 0, 0, 1, 0, 0}, {67, 0, 0, 1, 0, 0, 0, 0, 0, 0}, {67, 0, 0, 0, 0, 0, 0, 1, 0, 0}, {65, 0, 0, 1, 0, 0, 0, 1, 0, 0},
	} {
		if isBody(c, string(body)) {
			t.Errorf("the test is wrong of %v", body)
		}
		wantNoPacket(t, c, sealed(string(body)), api.ErrForm)
	}
}

// wantJudged holds Decode of a sealed body to the test's own judgement.
func wantJudged(t *testing.T, c api.Conf, body string) {
	t.Helper()
	s := sealed(body)
	if len(s) > 40 {
		wantNoPacket(t, c, s, api.ErrLong)
		return
	}
	if !isBody(c, body) {
		wantNoPacket(t, c, s, api.ErrForm)
		return
	}
	p, e := wire.Decode(c, s)
	if e != api.OK || packet.Right(c, p) != api.OK || bodyOf(p) != body {
		t.Fatalf("Decode(%q): %#v %d", s, p, e)
	}
	if again, e := wire.Encode(c, p); again != s || e != api.OK {
		t.Fatalf("Encode of what was decoded of %q: %q %d", s, again, e)
	}
}

// P11.2: all bodies of up to two bytes; 27 of them are packets of three votes.
func TestDecodeAllShortBodies(t *testing.T) {
	c := sized(4, 0, 4)
	wantJudged(t, c, "")
	packets := 0
	for a := range 256 {
		wantJudged(t, c, string([]byte{byte(a)}))
		for b := range 256 {
			body := string([]byte{byte(a), byte(b)})
			wantJudged(t, c, body)
			if _, e := wire.Decode(c, sealed(body)); e == api.OK {
				packets++
			}
		}
	}
	if packets != 27 {
		t.Errorf("%d packets", packets)
	}
}

// digits is n digits by chance.
func digits(source *rand.Rand, n int) string {
	out := make([]byte, n)
	for i := range out {
		out[i] = byte(48 + source.Intn(3))
	}
	return string(out)
}

// some is n bytes by chance.
func some(source *rand.Rand, n int) string {
	out := make([]byte, n)
	for i := range out {
		out[i] = byte(source.Intn(256))
	}
	return string(out)
}

// drawn is a packet that is right of c.
func drawn(source *rand.Rand, c api.Conf) api.Packet {
	rounds := 3 * (c.F + 1)
	p := api.Packet{Votes: digits(source, rounds)}
	if source.Intn(2) == 1 {
		p.Ex, p.Vec = 1+source.Intn(rounds), digits(source, 8+c.N)
	}
	if source.Intn(2) == 1 {
		p.Slot, p.Cycle, p.Text = 1+source.Intn(len(c.Table)), source.Intn(c.Mod), some(source, source.Intn(17))
	}
	return p
}

// turned is a body that is spoilt a little: a byte turned, put in, taken out, or all of it cut.
func turned(source *rand.Rand, body string) string {
	at := source.Intn(len(body))
	switch source.Intn(5) {
	case 0:
		return body[:at] + some(source, 1) + body[at:]
	case 1:
		return body[:at] + body[at+1:]
	case 2:
		return body[:at]
	case 3:
		return body[:at] + string([]byte{body[at] ^ 1<<source.Intn(8)}) + body[at+1:]
	}
	return body[:at] + some(source, 1) + body[at+1:]
}

// P11.3: there and back, of packets of each configuration.
func TestThereAndBack(t *testing.T) {
	source := rand.New(rand.NewSource(11))
	for _, c := range confs() {
		for range 1000 {
			p := drawn(source, c)
			wantBytes(t, c, p, bodyOf(p))
			wantJudged(t, c, bodyOf(p))
			if n := wire.Size(c, p); n > 40 {
				t.Fatalf("%d bytes of %#v", n, p)
			}
		}
	}
}

// P11.2, P11.3: bodies that were spoilt, and bytes by chance, with a right sum behind them.
func TestDecodeSpoilt(t *testing.T) {
	source := rand.New(rand.NewSource(112))
	for _, c := range confs() {
		for range 5000 {
			body := turned(source, bodyOf(drawn(source, c)))
			wantJudged(t, c, body)
			wantJudged(t, c, some(source, source.Intn(45)))
		}
	}
}

// P11.3: each byte turned into each other one is told.
func TestTurnedByteIsTold(t *testing.T) {
	source := rand.New(rand.NewSource(113))
	for _, c := range confs() {
		for range 10 {
			s, _ := wire.Encode(c, drawn(source, c))
			for at := range len(s) {
				for turn := 1; turn < 256; turn++ {
					wantNoPacket(t, c, s[:at]+string([]byte{s[at] ^ byte(turn)})+s[at+1:], api.ErrSum)
				}
			}
		}
	}
}

// P11.3: the longest packet that there can be.
func TestLongest(t *testing.T) {
	c := sized(13, 4, 32)
	p := api.Packet{Votes: strings.Repeat("2", 15), Ex: 15, Vec: strings.Repeat("2", 21), Slot: 32, Cycle: 249, Text: strings.Repeat("\xff", 16)}
	wantBytes(t, c, p, bodyOf(p))
	if n := wire.Size(c, p); n != 35 {
		t.Errorf("%d bytes", n)
	}
}

// P11.2: another configuration's bytes are none of this one's, where it has other numbers of digits.
func TestOtherConf(t *testing.T) {
	for i, c := range confs() {
		p := packet.Blank(c)
		for j, other := range confs() {
			if (3*(c.F+1)+3)/4 == (3*(other.F+1)+3)/4 {
				continue
			}
			if _, e := wire.Decode(other, sealed(bodyOf(p))); e != api.ErrForm {
				t.Errorf("a packet of %d is taken by %d: %d", i, j, e)
			}
		}
	}
}

// P8: texts of any kind end in an answer.
func TestWildTexts(t *testing.T) {
	source := rand.New(rand.NewSource(114))
	c := small()
	for n := range 60 {
		for range 50 {
			s := some(source, n)
			want := api.ErrSum
			if n > 40 {
				want = api.ErrLong
			} else if n < 4 {
				want = api.ErrShort
			}
			wantNoPacket(t, c, s, want)
		}
	}
}

// Rules 4 and 6: the table that is handed in is not changed, and the same is answered again.
func TestTableStays(t *testing.T) {
	c := small()
	p := api.Packet{Votes: "012000", Slot: 4, Cycle: 9, Text: "x"}
	for range 3 {
		wantBytes(t, c, p, bodyOf(p))
	}
	if !slices.Equal(c.Table, []int{0, 1, 2, 3}) {
		t.Error("changed:", c.Table)
	}
}
