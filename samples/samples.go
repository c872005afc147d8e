// Package samples has configurations, clocks, memories, numbers and texts that the tests of many packages begin with. The program itself calls nothing of it.
package samples

import (
	"math"

	"bellwether/api"
)

const (
	phaseExchanges = 3
	numberBits     = 8
	maxRegular     = 2
	bytes          = 256
	seldom         = 12
)

// Small is the configuration of the document's examples.
func Small() api.Conf {
	return api.Conf{N: 4, F: 1, D: 1, Period: 20, Rate: 64, Drift: 1, Offset: 64, Slot: 190, Mod: 10, Fresh: 3, Table: []int{0, 1, 2, 3}}
}

// Sized is a plain configuration of n nodes, f of which may be faulty, with delay d and the longest period.
func Sized(n, f, d int) api.Conf {
	c := Small()
	c.N, c.F, c.D, c.Period = n, f, d, api.MaxPeriod
	c.Table = nil
	for node := range n {
		c.Table = append(c.Table, node)
	}
	return c
}

// Confs are plain configurations of each F and D that there can be, with few nodes and with many.
func Confs() []api.Conf {
	var out []api.Conf
	for f := range api.MaxFaulty + 1 {
		for d := 1; d <= api.MaxDelay; d++ {
			out = append(out, Sized(max(api.MinNodes, 3*f+1), f, d), Sized(api.MaxNodes, f, d))
		}
	}
	return out
}

// Wrong are configurations that are not plain: the small one with one number beyond a limit, and wild ones.
func Wrong() []api.Conf {
	out := []api.Conf{
		{},
		{N: 4, F: 1, D: 1, Period: 20, Mod: 10},
		{N: math.MaxInt, F: math.MaxInt, D: math.MaxInt, Period: math.MaxInt, Mod: math.MaxInt},
		{N: math.MinInt, F: math.MinInt, D: math.MinInt, Period: math.MinInt, Mod: math.MinInt},
	}
	for _, turn := range turns() {
		c := Small()
		turn(&c)
		out = append(out, c)
	}
	return out
}

func turns() []func(c *api.Conf) {
	return []func(c *api.Conf){
		func(c *api.Conf) { c.N = 3 },
		func(c *api.Conf) { c.N = 14 },
		func(c *api.Conf) { c.F = 2 },
		func(c *api.Conf) { c.F = -1 },
		func(c *api.Conf) { c.D = 0 },
		func(c *api.Conf) { c.D = -1 },
		func(c *api.Conf) { c.D = 5 },
		func(c *api.Conf) { c.Period = 12 },
		func(c *api.Conf) { c.Period = 401 },
		func(c *api.Conf) { c.Rate = 0 },
		func(c *api.Conf) { c.Drift = 64 },
		func(c *api.Conf) { c.Offset = -1 },
		func(c *api.Conf) { c.Slot = 0 },
		func(c *api.Conf) { c.Mod = 0 },
		func(c *api.Conf) { c.Mod = 1 },
		func(c *api.Conf) { c.Mod = 251 },
		func(c *api.Conf) { c.Fresh = 0 },
		func(c *api.Conf) { c.Fresh = 101 },
		func(c *api.Conf) { c.Table = nil },
		func(c *api.Conf) { c.Table = c.Table[1:] },
		func(c *api.Conf) { c.Table[0] = 4 },
		func(c *api.Conf) { c.Table = append(c.Table, make([]int, api.MaxSlots)...) },
	}
}

// Length is how many ticks an instance of a plain configuration takes, straight from the document's words.
func Length(c api.Conf) int {
	return phaseExchanges * (c.F + 1) * c.D
}

// Text is count bytes, most of them usual ones, a few any there are. What pick answers is from 0 on and below what it is given.
func Text(pick func(below int) int, count int, usual string) string {
	out := make([]byte, count)
	for i := range out {
		out[i] = usual[pick(len(usual))]
		if pick(seldom) == 0 {
			out[i] = byte(pick(bytes))
		}
	}
	return string(out)
}
