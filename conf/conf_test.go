package conf_test

import (
	"math"
	"slices"
	"testing"

	"bellwether/api"
	"bellwether/conf"
)

// small is a configuration that is plain.
func small() api.Conf {
	return api.Conf{N: 4, F: 1, D: 1, Period: 20, Rate: 64, Drift: 1, Offset: 64, Slot: 190, Mod: 10, Fresh: 3, Table: []int{0, 1, 2, 3}}
}

// sized is a plain configuration of n nodes, each with one slot, and with the longest period.
func sized(n, f, d int) api.Conf {
	c := small()
	c.N, c.F, c.D, c.Period = n, f, d, api.MaxPeriod
	c.Table = nil
	for node := range n {
		c.Table = append(c.Table, node)
	}
	return c
}

func wantPlain(t *testing.T, c api.Conf, want api.Errno) {
	t.Helper()
	if e := conf.Plain(c); e != want {
		t.Errorf("Plain(%+v): %d, not %d", c, e, want)
	}
	if want == api.OK {
		return
	}
	if r, l, b := conf.Rounds(c), conf.Length(c), conf.Bits(c); r != 0 || l != 0 || b != 0 {
		t.Errorf("of %+v, that is not plain: Rounds %d, Length %d, Bits %d", c, r, l, b)
	}
}

// wantLimits holds a number to its limits: set puts it into a configuration that is plain otherwise.
func wantLimits(t *testing.T, least, most int, wrong api.Errno, set func(n int) api.Conf) {
	t.Helper()
	for _, n := range []int{least, least + (most-least)/2, most} {
		wantPlain(t, set(n), api.OK)
	}
	for _, n := range []int{math.MinInt, math.MinInt + 1, -1 << 32, least - 1, most + 1, 1 << 32, math.MaxInt - 1, math.MaxInt} {
		wantPlain(t, set(n), wrong)
	}
}

// P3.1: how many nodes there are, and how many of them may be faulty.
func TestPlainNodes(t *testing.T) {
	wantLimits(t, 4, 13, api.ErrNode, func(n int) api.Conf {
		c := sized(min(max(n, 4), 13), 1, 1)
		c.N = n
		return c
	})
	wantLimits(t, 0, 4, api.ErrNode, func(f int) api.Conf { return sized(13, f, 1) })
	for n := 4; n <= 13; n++ {
		for f := -1; f <= 5; f++ {
			want := api.OK
			if f < 0 || f > 4 || n <= 3*f {
				want = api.ErrNode
			}
			wantPlain(t, sized(n, f, 1), want)
		}
	}
}

// P3.1: the delay.
func TestPlainDelay(t *testing.T) {
	wantLimits(t, 1, 4, api.ErrLate, func(d int) api.Conf { return sized(7, 2, d) })
}

// P3.1: the period must be above 6 (F + 1) D.
func TestPlainPeriod(t *testing.T) {
	for f := range 5 {
		for d := 1; d <= 4; d++ {
			wantLimits(t, 6*(f+1)*d+1, 400, api.ErrConf, func(period int) api.Conf {
				c := sized(13, f, d)
				c.Period = period
				return c
			})
		}
	}
}

// P3.1: the clock's numbers.
func TestPlainClock(t *testing.T) {
	wantLimits(t, 1, 64, api.ErrConf, func(rate int) api.Conf {
		c := small()
		c.Rate, c.Drift = rate, 0
		return c
	})
	for _, rate := range []int{1, 2, 33, 64} {
		wantLimits(t, 0, rate-1, api.ErrConf, func(drift int) api.Conf {
			c := small()
			c.Rate, c.Drift = rate, drift
			return c
		})
	}
}

// P3.1: the other numbers of ErrConf.
func TestPlainNumbers(t *testing.T) {
	for _, x := range []struct {
		least, most int
		put         func(c *api.Conf, n int)
	}{
		{0, 30000, func(c *api.Conf, n int) { c.Offset = n }},
		{1, 30000, func(c *api.Conf, n int) { c.Slot = n }},
		{2, 250, func(c *api.Conf, n int) { c.Mod = n }},
		{1, 100, func(c *api.Conf, n int) { c.Fresh = n }},
	} {
		wantLimits(t, x.least, x.most, api.ErrConf, func(n int) api.Conf {
			c := small()
			x.put(&c, n)
			return c
		})
	}
}

// P3.1: the table of slots.
func TestPlainTable(t *testing.T) {
	for _, x := range []struct {
		table []int
		want  api.Errno
	}{
		{nil, api.ErrSlot}, {[]int{}, api.ErrSlot}, {[]int{0}, api.ErrSlot}, {[]int{0, 1, 2}, api.ErrSlot},
		{[]int{1, 2, 3, 1}, api.ErrSlot}, {[]int{0, 1, 2, 2, 1, 0}, api.ErrSlot},
		{[]int{0, 1, 2, 4}, api.ErrSlot}, {[]int{0, 1, 2, 3, 4}, api.ErrSlot}, {[]int{-1, 0, 1, 2, 3}, api.ErrSlot},
		{[]int{0, 1, 2, 3, math.MinInt}, api.ErrSlot}, {[]int{math.MaxInt, 0, 1, 2, 3}, api.ErrSlot}, {[]int{0, 1, 2, 3, 13}, api.ErrSlot},
		{[]int{3, 2, 1, 0}, api.OK}, {[]int{3, 3, 2, 1, 0}, api.OK}, {[]int{0, 1, 2, 3, 0, 1, 2, 3}, api.OK},
	} {
		c := small()
		c.Table = x.table
		wantPlain(t, c, x.want)
	}
}

// P3.1: 32 slots are the most.
func TestPlainSlots(t *testing.T) {
	for slots := 4; slots <= 70; slots++ {
		c := small()
		c.Table = make([]int, slots)
		copy(c.Table[slots-4:], []int{0, 1, 2, 3})
		want := api.OK
		if slots > 32 {
			want = api.ErrSlot
		}
		wantPlain(t, c, want)
	}
	most := sized(13, 4, 4)
	most.Table = append(most.Table, most.Table...)
	wantPlain(t, most, api.OK)
}

// P3.1, P8: of several errors the one that is named first.
func TestPlainOrder(t *testing.T) {
	spoil := []func(c *api.Conf){
		func(c *api.Conf) { c.F = 2 },
		func(c *api.Conf) { c.D = 5 },
		func(c *api.Conf) { c.Mod = 1 },
		func(c *api.Conf) { c.Table = []int{0, 1, 2, 9} },
	}
	wrong := []api.Errno{api.ErrNode, api.ErrLate, api.ErrConf, api.ErrSlot}
	for set := 1; set < 1<<len(spoil); set++ {
		c, want := small(), api.OK
		for i, f := range spoil {
			if set>>i&1 == 0 {
				continue
			}
			f(&c)
			if want == api.OK {
				want = wrong[i]
			}
		}
		wantPlain(t, c, want)
	}
	wantPlain(t, api.Conf{}, api.ErrNode)
}

// P8: no number makes a call panic, and no limit that is reckoned of another number wraps round unseen.
func TestPlainGreatestNumbers(t *testing.T) {
	for _, n := range []int{math.MinInt, math.MinInt / 3, math.MinInt / 6, -1, math.MaxInt / 6, math.MaxInt / 3, math.MaxInt} {
		wantPlain(t, api.Conf{N: n, F: n, D: n, Period: n, Rate: n, Drift: n, Offset: n, Slot: n, Mod: n, Fresh: n, Table: []int{n}}, api.ErrNode)
		c := small()
		c.F = n
		wantPlain(t, c, api.ErrNode)
		c = small()
		c.D, c.Period = n, n
		wantPlain(t, c, api.ErrLate)
		c = small()
		c.Rate, c.Drift = n, n
		wantPlain(t, c, api.ErrConf)
	}
}

// P3.2, and example 1.
func TestReckoned(t *testing.T) {
	c := small()
	if r, l, b := conf.Rounds(c), conf.Length(c), conf.Bits(c); r != 6 || l != 6 || b != 12 {
		t.Errorf("small: %d %d %d", r, l, b)
	}
	for n := 4; n <= 13; n++ {
		for f := 0; 3*f < n; f++ {
			for d := 1; d <= 4; d++ {
				c := sized(n, f, d)
				if r, l, b := conf.Rounds(c), conf.Length(c), conf.Bits(c); r != 3*(f+1) || l != 3*(f+1)*d || b != 8+n {
					t.Errorf("N %d, F %d, D %d: %d %d %d", n, f, d, r, l, b)
				}
			}
		}
	}
}

// P3.3: an instance takes less than half a period, in the shortest one that is plain too.
func TestInstanceInHalfAPeriod(t *testing.T) {
	for f := range 5 {
		for d := 1; d <= 4; d++ {
			for period := range 500 {
				c := sized(13, f, d)
				c.Period = period
				if conf.Plain(c) == api.OK && 2*conf.Length(c) >= period {
					t.Errorf("F %d, D %d, Period %d: Length %d", f, d, period, conf.Length(c))
				}
			}
		}
	}
}

// Rules 4 and 6: the table stays as it is, and the same answer comes again.
func TestTableStays(t *testing.T) {
	c := small()
	for range 3 {
		wantPlain(t, c, api.OK)
		if !slices.Equal(c.Table, []int{0, 1, 2, 3}) {
			t.Fatal("the table was changed")
		}
	}
}
