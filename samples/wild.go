package samples

import (
	"math"
	"strings"
)

// Wild are numbers at which a call might go wrong: the least and the greatest ones, those about the bounds of shorter kinds of numbers, and about those of rows and clocks.
func Wild() []int {
	return []int{math.MinInt, math.MinInt + 1, -1 << 33, -1 << 32, -1 << 31, -65537, -65536, -2, -1, 33, 63, 64, 65, 65535, 65536, 1 << 31, 1 << 32, 1 << 33, math.MaxInt - 1, math.MaxInt}
}

// Marks are texts of any kind that may come for a row of marks: with marks and without, short and long, of runes of several bytes, and broken ones.
func Marks() []string {
	return []string{
		"", "1", "0", "01", "10", "1111", "0000", "2", "x", "/1", ":1", "\x01", "\x001", "é1", "1é1", "\xff1", "\xc31", "１1", "١1", "1\n", " 1",
		strings.Repeat("1", 64), strings.Repeat("01", 32) + "1", strings.Repeat("1", 65), strings.Repeat("1", 5000), strings.Repeat("é", 70),
	}
}
