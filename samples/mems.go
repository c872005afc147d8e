package samples

import "bellwether/api"

const (
	digits = "0123450123456x"
	marks  = "01x"
)

// Memory is one by chance for a plain configuration: most parts such as a node may have, many beyond their limits, and lists of any length. What pick answers is from 0 on and below what it is given.
func Memory(c api.Conf, pick func(below int) int) api.Mem {
	some := maker{c, pick}
	m := api.Mem{
		Clock:   some.number(api.Wrap),
		Anchor:  some.number(api.Wrap),
		Since:   some.number(c.Period),
		Pipe:    some.text(Length(c), digits),
		Age:     some.number(Length(c)),
		Vec:     some.text(numberBits+c.N, digits),
		Agreed:  some.text(numberBits+c.N, marks),
		Number:  some.number(c.Mod),
		Regular: some.number(maxRegular),
		Members: some.text(c.N, marks),
		Seen:    some.text(c.N, marks),
		Heard:   some.text(len(c.Table), marks),
		Sent:    some.text(len(c.Table), marks),
		Out:     some.text(pick(api.MaxText+2), digits),
		Line:    some.text(pick(api.MaxText+2), digits),
		Ports:   make([]api.Port, some.length(c.N)),
		Hold:    make([]string, some.length(c.N*c.D)),
		Log:     make([]api.Entry, some.length(pick(api.MaxLog+seldom))),
	}
	for i := range m.Diag {
		m.Diag[i] = some.number(api.MaxCount)
	}
	some.fill(m)
	return m
}

// maker makes parts of memories by chance.
type maker struct {
	api.Conf
	pick func(below int) int
}

// fill fills the lists that a memory has.
func (some maker) fill(m api.Mem) {
	for i := range m.Ports {
		m.Ports[i] = api.Port{Text: some.text(some.pick(api.MaxText+1), digits), Cycle: some.number(some.Mod), Age: some.number(some.Fresh)}
	}
	for i := range m.Hold {
		m.Hold[i] = some.text(some.pick(api.MaxPacket+1), digits)
	}
	for i := range m.Log {
		m.Log[i] = api.Entry{From: some.number(some.N), At: some.number(api.Wrap)}
	}
}

// number is mostly one from 0 to most, at times one a little beyond, or a wild one.
func (some maker) number(most int) int {
	switch some.pick(seldom) {
	case 0:
		wild := Wild()
		return wild[some.pick(len(wild))]
	case 1:
		return most + some.pick(seldom)
	case 2:
		return -some.pick(seldom)
	}
	return some.pick(most + 1)
}

// length is mostly this one, at times one near it or none.
func (some maker) length(usual int) int {
	switch some.pick(seldom) {
	case 0:
		return 0
	case 1:
		return usual + some.pick(seldom)
	case 2:
		return some.pick(usual + 1)
	}
	return usual
}

// text is one mostly of this length, most of its bytes usual ones.
func (some maker) text(length int, usual string) string {
	return Text(some.pick, some.length(length), usual)
}
