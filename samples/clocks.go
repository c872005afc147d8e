package samples

import (
	"bellwether/api"
	"bellwether/bound"
)

const maxDrift = 3

// Rights are those of so many configurations by chance that are right, and each of them with slots and a period as short as may be. What pick answers is from 0 on and below what it is given.
func Rights(pick func(below int) int, tries int) []api.Conf {
	var out []api.Conf
	for range tries {
		if c := chance(pick); bound.Right(c) == api.OK {
			out = append(out, c, tight(c))
		}
	}
	return out
}

// chance is a plain configuration that may well be right: one with few slots and a high rate rather than others, since with many slots or a low rate hardly any drift is borne.
func chance(pick func(below int) int) api.Conf {
	n := api.MinNodes + few(pick, api.MaxNodes-api.MinNodes)
	c := Sized(n, pick((n-1)/phaseExchanges+1), 1+pick(api.MaxDelay))
	c.Rate = api.MaxRate - few(pick, api.MaxRate-1)
	c.Drift = pick(min(c.Rate, maxDrift+1))
	c.Offset = pick(3 * c.Rate)
	c.Slot = 1 + 2*c.Rate + pick(12*c.Rate)
	c.Period = api.MaxPeriod - few(pick, api.MaxPeriod-2*Length(c)-1)
	c.Table = mixed(pick, n, few(pick, api.MaxSlots-n))
	return c
}

// few is a number from 0 to most, a small one rather than a great one.
func few(pick func(below int) int, most int) int {
	return pick(1 + pick(most+1))
}

// mixed is a table of n nodes, in any order, of which some own more slots than one.
func mixed(pick func(below int) int, n, more int) []int {
	var table []int
	for node := range n {
		table = append(table, node)
	}
	for range more {
		table = append(table, pick(n))
	}
	for slot := range table {
		other := pick(len(table))
		table[slot], table[other] = table[other], table[slot]
	}
	return table
}

// tight is a configuration that is right, and would not be with slots or a period by one shorter.
func tight(c api.Conf) api.Conf {
	for next := c; bound.Right(next) == api.OK; next.Slot-- {
		c.Slot = next.Slot
	}
	for next := c; bound.Right(next) == api.OK; next.Period-- {
		c.Period = next.Period
	}
	return c
}

// Clocks are clocks within drift, by their units behind a pulse, from its tick on and as many more as a period has: slow ones, fast ones, such as turn from one to the other, and by chance.
func Clocks(c api.Conf, pick func(below int) int) [][]int {
	kinds := []func(tick int) int{
		func(int) int { return -c.Drift },
		func(int) int { return c.Drift },
		func(int) int { return 0 },
		func(tick int) int { return c.Drift - 2*c.Drift*(tick%2) },
		func(tick int) int { return 2*c.Drift*(2*tick/c.Period) - c.Drift },
		func(int) int { return pick(2*c.Drift+1) - c.Drift },
	}
	var out [][]int
	for _, off := range kinds {
		clock := []int{0}
		for tick := range c.Period {
			clock = append(clock, clock[tick]+c.Rate+off(tick))
		}
		out = append(out, clock)
	}
	return out
}
