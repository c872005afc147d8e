package samples_test

import (
	"math/rand"
	"slices"
	"testing"

	"bellwether/api"
	"bellwether/mem"
	"bellwether/samples"
)

// parts tells of parts of a memory whether they are as they are mended.
func parts(m, mended api.Mem) map[string]bool {
	return map[string]bool{
		"Clock":   m.Clock == mended.Clock,
		"Since":   m.Since == mended.Since,
		"Pipe":    m.Pipe == mended.Pipe,
		"Vec":     m.Vec == mended.Vec,
		"Agreed":  m.Agreed == mended.Agreed,
		"Regular": m.Regular == mended.Regular,
		"Members": m.Members == mended.Members,
		"Sent":    m.Sent == mended.Sent,
		"Out":     m.Out == mended.Out,
		"Ports":   slices.Equal(m.Ports, mended.Ports),
		"Hold":    slices.Equal(m.Hold, mended.Hold),
		"Log":     slices.Equal(m.Log, mended.Log),
		"Diag":    m.Diag == mended.Diag,
	}
}

// Of each part there must be many that are within their limits, and many that are not.
func TestMemory(t *testing.T) {
	dice := rand.New(rand.NewSource(4))
	seen := map[string]int{}
	const tries = 3000
	for range tries {
		c := samples.Small()
		m := samples.Memory(c, dice.Intn)
		for part, is := range parts(m, mem.Mend(c, m)) {
			seen[part] += 0
			if is {
				seen[part]++
			}
		}
	}
	for part, n := range seen {
		if n < 100 || n > tries-100 {
			t.Errorf("%d of %d memories are well in %s", n, tries, part)
		}
	}
	if len(seen) == 0 {
		t.Error("no part was asked")
	}
}

// A memory has lists of its own.
func TestMemoryIsNewEachTime(t *testing.T) {
	none := func(below int) int { return below - 1 }
	one, other := samples.Memory(samples.Small(), none), samples.Memory(samples.Small(), none)
	if len(one.Ports) == 0 || len(one.Hold) == 0 || len(one.Log) == 0 || !mem.Same(one, other) {
		t.Fatalf("%+v, %+v", one, other)
	}
	one.Ports[0].Text, one.Hold[0], one.Log[0].From = "spoilt", "spoilt", 99
	if other.Ports[0].Text == "spoilt" || other.Hold[0] == "spoilt" || other.Log[0].From == 99 {
		t.Error("a list is shared")
	}
}
