package bound_test

import (
	"math"
	"math/rand"
	"testing"

	"bellwether/api"
	"bellwether/bound"
	"bellwether/conf"
	"bellwether/samples"
)

// small is a configuration that is right.
func small() api.Conf {
	return api.Conf{N: 4, F: 1, D: 1, Period: 20, Rate: 64, Drift: 1, Offset: 64, Slot: 190, Mod: 10, Fresh: 3, Table: []int{0, 1, 2, 3}}
}

// changed is small, with one thing changed.
func changed(change func(c *api.Conf)) api.Conf {
	c := small()
	change(&c)
	return c
}

func wantPlace(t *testing.T, c api.Conf, slot, begin, middle int) {
	t.Helper()
	if b, m := bound.Begin(c, slot), bound.Middle(c, slot); b != begin || m != middle {
		t.Errorf("slot %d of %+v: begin %d, middle %d, not %d and %d", slot, c, b, m, begin, middle)
	}
}

// P4.1
func TestPlaces(t *testing.T) {
	c := small()
	wantPlace(t, c, 0, 64, 159)
	wantPlace(t, c, 1, 254, 349)
	wantPlace(t, c, 2, 444, 539)
	wantPlace(t, c, 3, 634, 729)
	c.Slot, c.Offset = 191, 0
	wantPlace(t, c, 0, 0, 95)
	wantPlace(t, c, 3, 573, 668)
	c.Slot = 1
	wantPlace(t, c, 0, 0, 0)
	wantPlace(t, c, 3, 3, 3)
	c.Slot, c.Offset, c.Table = 30000, 30000, make([]int, 32)
	copy(c.Table, []int{3, 2, 1, 0})
	wantPlace(t, c, 31, 960000, 975000)
}

// P4.1: there is no such slot.
func TestPlacesOfNoSlot(t *testing.T) {
	for _, slot := range []int{math.MinInt, -1 << 32, -4, -1, 4, 5, 31, 32, 1 << 32, math.MaxInt} {
		wantPlace(t, small(), slot, 0, 0)
	}
}

// P4.1: the guard, rounded up.
func TestGuard(t *testing.T) {
	for _, x := range []struct {
		c    api.Conf
		want int
	}{
		{small(), 90}, // 2 * 729 / 63 is above 23
		{changed(func(c *api.Conf) { c.Slot = 170 }), 87},
		{changed(func(c *api.Conf) { c.Offset = 91 }), 90},          // 2 * 756 / 63 is 24
		{changed(func(c *api.Conf) { c.Offset = 92 }), 91},          // and one unit more is rounded up
		{changed(func(c *api.Conf) { c.Offset = 60 }), 90},          // 2 * 725 / 63 is just above 23
		{changed(func(c *api.Conf) { c.Offset = 59 }), 89},          // 2 * 724 / 63 is just below 23
		{changed(func(c *api.Conf) { c.Drift = 0 }), 64},            // nothing but the rate
		{changed(func(c *api.Conf) { c.D, c.Period = 2, 40 }), 91},  // (D + 1) Drift
		{changed(func(c *api.Conf) { c.D, c.Period = 4, 400 }), 93}, // and with the greatest delay
		{changed(func(c *api.Conf) { c.Drift = 63 }), 2*63*729 + 64 + 2*63},
		{changed(func(c *api.Conf) { c.Rate, c.Drift = 1, 0 }), 1},
		{changed(func(c *api.Conf) { c.Rate, c.Drift, c.Slot, c.Offset = 10, 3, 1, 0 }), 3 + 10 + 6}, // 2 * 3 * 3 / 7
	} {
		if got := bound.Guard(x.c); got != x.want {
			t.Errorf("Guard(%+v): %d, not %d", x.c, got, x.want)
		}
	}
}

func wantRight(t *testing.T, c api.Conf, want api.Errno) {
	t.Helper()
	if e := bound.Right(c); e != want {
		t.Errorf("Right(%+v): %d, not %d", c, e, want)
	}
}

// P4.2: a slot must be above two guards.
func TestRightSlot(t *testing.T) {
	wantRight(t, small(), api.OK)
	still := changed(func(c *api.Conf) { c.Drift = 0 }) // the guard is 64
	for slot, want := range map[int]api.Errno{1: api.ErrConf, 64: api.ErrConf, 127: api.ErrConf, 128: api.ErrConf, 129: api.OK, 130: api.OK} {
		still.Slot = slot
		wantRight(t, still, want)
	}
	for slot := 1; slot <= 260; slot++ {
		c := changed(func(c *api.Conf) { c.Slot = slot })
		want := api.OK
		if slot <= 2*bound.Guard(c) || bound.Middle(c, 3)+64+bound.Guard(c) > 19*63 {
			want = api.ErrConf
		}
		wantRight(t, c, want)
	}
}

// P4.2: the last slot's message must come ahead of the next pulse.
func TestRightPeriod(t *testing.T) {
	for _, x := range []struct {
		period, offset, slot int
		want                 api.Errno
	}{
		{13, 64, 190, api.ErrConf}, {14, 64, 190, api.ErrConf}, {15, 64, 190, api.ErrConf}, {16, 64, 190, api.OK}, {400, 64, 190, api.OK},
		// 14 ticks are 882 units: a middle of 728, 64 and 90 are just as many.
		{15, 63, 190, api.OK}, {15, 62, 190, api.OK},
		// 19 ticks are 1197 units: a middle of 1034, 64 and 99 are just as many.
		{20, 333, 200, api.OK}, {20, 334, 200, api.OK}, {20, 335, 200, api.ErrConf}, {20, 400, 200, api.ErrConf},
	} {
		wantRight(t, changed(func(c *api.Conf) { c.Period, c.Offset, c.Slot = x.period, x.offset, x.slot }), x.want)
	}
}

// P4.2: with drift, a delay of more ticks takes that many rates.
func TestRightDelay(t *testing.T) {
	c := changed(func(c *api.Conf) { c.D, c.Period, c.Drift, c.Slot = 4, 49, 0, 200 })
	// Without drift the guard is 64: 48 ticks are 3072 units, and a middle of 2752, 4 * 64 and 64 are as many.
	c.Offset = 2752 - 700
	wantRight(t, c, api.OK)
	c.Offset++
	wantRight(t, c, api.ErrConf)
}

// P4.2: a period must stay below half of the clocks' way round, however wide the slots are.
func TestRightRound(t *testing.T) {
	for drift := range 64 {
		for slot := 1; slot <= 30000; slot += 97 {
			c := changed(func(c *api.Conf) { c.Period, c.Drift, c.Slot, c.Offset = 400, drift, slot, 0 })
			if 400*(64+drift) >= 32768 {
				wantRight(t, c, api.ErrConf)
			}
		}
	}
}

// P4.2, P8: what is not plain has conf's error.
func TestRightOfNotPlain(t *testing.T) {
	wantRight(t, api.Conf{}, api.ErrNode)
	for _, spoil := range spoils() {
		c := changed(spoil)
		if conf.Plain(c) == api.OK {
			t.Fatalf("%+v is plain", c)
		}
		wantRight(t, c, conf.Plain(c))
		narrow := changed(func(c *api.Conf) {
			c.Slot = 1
			spoil(c)
		})
		wantRight(t, narrow, conf.Plain(narrow))
	}
}

func spoils() []func(c *api.Conf) {
	return []func(c *api.Conf){
		func(c *api.Conf) { c.N = 3 },
		func(c *api.Conf) { c.F = 2 },
		func(c *api.Conf) { c.D = 0 },
		func(c *api.Conf) { c.D = math.MaxInt },
		func(c *api.Conf) { c.Period = 12 },
		func(c *api.Conf) { c.Period = math.MaxInt },
		func(c *api.Conf) { c.Drift = 64 },
		func(c *api.Conf) { c.Rate = math.MinInt },
		func(c *api.Conf) { c.Drift = math.MinInt },
		func(c *api.Conf) { c.Offset = math.MaxInt },
		func(c *api.Conf) { c.Slot = math.MaxInt },
		func(c *api.Conf) { c.Mod = 251 },
		func(c *api.Conf) { c.Fresh = 0 },
		func(c *api.Conf) { c.Table = nil },
		func(c *api.Conf) { c.Table = make([]int, 33) },
	}
}

// P4.1 to P4.3: of what is not plain all is 0.
func TestNothingOfNotPlain(t *testing.T) {
	for i, spoil := range spoils() {
		c := changed(spoil)
		for slot := -1; slot < 5; slot++ {
			wantPlace(t, c, slot, 0, 0)
		}
		if g, s, a := bound.Guard(c), bound.Settle(c), bound.All(c); g != 0 || s != 0 || a != 0 {
			t.Errorf("of spoil %d: %d %d %d", i, g, s, a)
		}
	}
}

// P4.3: of what is plain, right or not.
func TestSettleAndAll(t *testing.T) {
	for _, x := range []struct {
		c           api.Conf
		settle, all int
	}{
		{small(), 65, 145},
		{changed(func(c *api.Conf) { c.Slot = 1 }), 65, 145},
		{changed(func(c *api.Conf) { c.F = 0 }), 1 + 12 + 40, 1 + 12 + 40 + 80},
		{changed(func(c *api.Conf) { c.D, c.Period = 4, 400 }), 1 + 96 + 800, 1 + 96 + 800 + 1600},
	} {
		if s, a := bound.Settle(x.c), bound.All(x.c); s != x.settle || a != x.all {
			t.Errorf("of %+v: %d and %d, not %d and %d", x.c, s, a, x.settle, x.all)
		}
	}
}

// wantHeard checks P4.4 for one slot and two clocks, that were begun anew at one pulse.
func wantHeard(t *testing.T, c api.Conf, slot int, sender, other []int) {
	t.Helper()
	middle := bound.Middle(c, slot)
	at := 0
	for at < c.Period && sender[at] < middle {
		at++
	}
	if at+c.D >= c.Period {
		t.Fatalf("%+v: slot %d is heard %d ticks behind the pulse", c, slot, at+c.D)
	}
	if off := other[at+c.D] - middle - c.D*c.Rate; max(off, -off) > bound.Guard(c) {
		t.Fatalf("%+v: slot %d is heard %d units off, the guard is %d", c, slot, off, bound.Guard(c))
	}
}

// P4.4
func TestSlotsAreHeardInTime(t *testing.T) {
	dice := rand.New(rand.NewSource(1))
	right := samples.Rights(dice.Intn, 2000)
	if len(right) < 1000 {
		t.Errorf("only %d configurations were right", len(right))
	}
	for _, c := range right {
		clocks := samples.Clocks(c, dice.Intn)
		for _, sender := range clocks {
			for _, other := range clocks {
				for slot := range c.Table {
					wantHeard(t, c, slot, sender, other)
				}
			}
		}
	}
}
