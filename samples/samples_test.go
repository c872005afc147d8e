package samples_test

import (
	"math/rand"
	"strings"
	"testing"

	"bellwether/api"
	"bellwether/bound"
	"bellwether/conf"
	"bellwether/samples"
)

func TestPlainOnes(t *testing.T) {
	for _, c := range append(samples.Confs(), samples.Small()) {
		if e := conf.Plain(c); e != api.OK {
			t.Errorf("%v: %d", c, e)
		}
		if got := samples.Length(c); got != conf.Length(c) {
			t.Errorf("%v: Length %d", c, got)
		}
	}
}

func TestWrongOnes(t *testing.T) {
	seen := map[api.Errno]int{}
	for _, c := range samples.Wrong() {
		seen[conf.Plain(c)]++
	}
	if seen[api.OK] > 0 || len(seen) != 4 {
		t.Errorf("errors %v", seen)
	}
}

// A configuration is new each time, so that a test that writes into it spoils no other one.
func TestNewEachTime(t *testing.T) {
	samples.Small().Table[0] = 9
	samples.Confs()[0].Table[0] = 9
	samples.Wrong()[4].Table[0] = 9
	if samples.Small().Table[0] != 0 || samples.Confs()[0].Table[0] != 0 || samples.Wrong()[4].Table[0] != 0 {
		t.Error("a table is shared")
	}
}

// kinds are what a configuration that is right may be, and whether it is.
func kinds(c api.Conf) map[string]bool {
	narrower, sooner := c, c
	narrower.Slot--
	sooner.Period--
	return map[string]bool{
		"tight":             bound.Right(narrower) != api.OK && bound.Right(sooner) != api.OK,
		"not tight":         bound.Right(narrower) == api.OK && bound.Right(sooner) == api.OK,
		"with drift":        c.Drift > 0,
		"without drift":     c.Drift == 0,
		"of a long delay":   c.D == api.MaxDelay,
		"of many nodes":     c.N > 8,
		"with a slot each":  len(c.Table) == c.N,
		"with more of some": len(c.Table) > c.N,
	}
}

// There must be many of each kind, so that what is tested of them holds of all.
func TestRights(t *testing.T) {
	seen := map[string]int{}
	for _, c := range samples.Rights(rand.New(rand.NewSource(2)).Intn, 2000) {
		if e := bound.Right(c); e != api.OK {
			t.Fatalf("%v: %d", c, e)
		}
		for kind, is := range kinds(c) {
			seen[kind] += 0
			if is {
				seen[kind]++
			}
		}
	}
	if len(seen) == 0 {
		t.Error("none is right")
	}
	for kind, n := range seen {
		if n < 100 {
			t.Errorf("%d %s", n, kind)
		}
	}
}

func TestClocks(t *testing.T) {
	dice := rand.New(rand.NewSource(3))
	for _, c := range samples.Rights(dice.Intn, 100) {
		for _, clock := range samples.Clocks(c, dice.Intn) {
			if clock[0] != 0 || len(clock) != c.Period+1 {
				t.Fatalf("%v: a clock of %d ticks begins with %d", c, len(clock), clock[0])
			}
			for tick := range c.Period {
				if off := clock[tick+1] - clock[tick] - c.Rate; max(off, -off) > c.Drift {
					t.Errorf("%v: a clock is %d units off at tick %d", c, off, tick)
				}
			}
		}
	}
}

func TestText(t *testing.T) {
	text := samples.Text(rand.New(rand.NewSource(1)).Intn, 5000, "01")
	usual := strings.Count(text, "0") + strings.Count(text, "1")
	if len(text) != 5000 || usual < 4300 || usual > 4800 {
		t.Errorf("%d of %d bytes are usual", usual, len(text))
	}
}
