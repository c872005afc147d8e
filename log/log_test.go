package log_test

import (
	"math"
	"math/rand"
	"slices"
	"testing"

	"bellwether/api"
	"bellwether/log"
	"bellwether/ring"
)

// some are the notes of the chapter's example, and one that is ahead of 14.
func some() []api.Entry {
	return []api.Entry{{From: 1, At: 10}, {From: 2, At: 12}, {From: 1, At: 13}, {From: 3, At: 15}}
}

// many are n notes that can be told apart.
func many(n int) []api.Entry {
	var out []api.Entry
	for i := range n {
		out = append(out, api.Entry{From: i % 5, At: i})
	}
	return out
}

func wantAlive(t *testing.T, l []api.Entry, now, width int, want ...api.Entry) {
	t.Helper()
	if got := log.Purge(l, now, width); !slices.Equal(got, want) {
		t.Errorf("Purge(%v, %d, %d): %v, not %v", l, now, width, got, want)
	}
}

func wantWho(t *testing.T, l []api.Entry, now, width int, want ...int) {
	t.Helper()
	if got := log.Who(l, now, width); !slices.Equal(got, want) {
		t.Errorf("Who(%v, %d, %d): %v, not %v", l, now, width, got, want)
	}
	if got := log.Count(l, now, width); got != len(want) {
		t.Errorf("Count(%v, %d, %d): %d, not %d", l, now, width, got, len(want))
	}
}

func wantOf(t *testing.T, l []api.Entry, node, now, width, want int) {
	t.Helper()
	if got := log.Of(l, node, now, width); got != want {
		t.Errorf("Of(%v, %d, %d, %d): %d, not %d", l, node, now, width, got, want)
	}
}

// P6.1
func TestPurge(t *testing.T) {
	l := some()
	wantAlive(t, l, 14, 4, l[1], l[2])
	wantAlive(t, l, 14, 5, l[0], l[1], l[2])
	wantAlive(t, l, 14, 2, l[2])
	wantAlive(t, l, 14, 1)
	wantAlive(t, l, 15, 1, l[3])
	wantAlive(t, l, 15, 6, l...)
	wantAlive(t, l, 9, 100)
	wantAlive(t, nil, 14, 4)
	wantAlive(t, []api.Entry{}, 14, 4)
}

// P6.1: notes stay in their order, twice the same too, and keep what they say.
func TestPurgeOrder(t *testing.T) {
	l := []api.Entry{{From: 3, At: 13}, {From: -7, At: 11}, {From: 3, At: 13}, {From: 0, At: 20}, {From: 1, At: 65536 + 12}, {From: 2, At: 14}}
	wantAlive(t, l, 14, 8, l[0], l[1], l[2], l[4], l[5])
}

// P6.1: no width, no note; of the greatest one, whatever is not ahead.
func TestPurgeWidth(t *testing.T) {
	l := some()
	for _, width := range []int{0, -1, -4, math.MinInt} {
		wantAlive(t, l, 14, width)
		wantWho(t, l, 14, width)
		wantOf(t, l, 1, 14, width, 0)
	}
	for _, width := range []int{5, 32768, 65536, math.MaxInt} {
		wantAlive(t, l, 14, width, l[:3]...)
	}
	behind := []api.Entry{{From: 1, At: 32767}, {From: 2, At: 32768}, {From: 3, At: 32769}, {From: 4, At: 65535}}
	wantAlive(t, behind, 0, math.MaxInt, behind[2], behind[3])
	wantAlive(t, behind, 0, 32768, behind[2], behind[3])
	wantAlive(t, behind, 0, 32767, behind[3])
}

// P6.1: clocks begin anew.
func TestPurgeOverTheTurn(t *testing.T) {
	l := []api.Entry{{From: 1, At: 65535}}
	wantAlive(t, l, 2, 4, l...)
	wantAlive(t, l, 2, 3)
	wantAlive(t, l, 65534, 4)
	wantAlive(t, l, -1, 1, l...)
	wantAlive(t, l, math.MaxInt, 1, l...)
	old := []api.Entry{{From: 1, At: math.MinInt}, {From: 2, At: math.MaxInt}}
	wantAlive(t, old, 0, 1, old[0])
	wantAlive(t, old, 0, 2, old...)
	wantAlive(t, old, math.MinInt, 2, old...)
}

// P6.1: rising, each node once, whatever numbers nodes have.
func TestWho(t *testing.T) {
	l := some()
	wantWho(t, l, 14, 4, 1, 2)
	wantWho(t, l, 14, 2, 1)
	wantWho(t, l, 15, 6, 1, 2, 3)
	wantWho(t, l, 15, 1, 3)
	wantWho(t, l, 14, 1)
	wantWho(t, nil, 14, 4)
	wild := []api.Entry{{From: 9}, {From: math.MaxInt}, {From: -1}, {From: 9}, {From: math.MinInt}, {From: 0}, {From: 12}, {From: -1}, {From: 5}, {From: 7}}
	wantWho(t, wild, 0, 1, math.MinInt, -1, 0, 5, 7, 9, 12, math.MaxInt)
}

// P6.1
func TestOf(t *testing.T) {
	l := some()
	wantOf(t, l, 1, 14, 5, 2)
	wantOf(t, l, 1, 14, 4, 1)
	wantOf(t, l, 2, 14, 4, 1)
	wantOf(t, l, 3, 14, 5, 0)
	wantOf(t, l, 3, 15, 5, 1)
	wantOf(t, nil, 1, 14, 5, 0)
	for _, node := range []int{math.MinInt, -1, 0, 4, math.MaxInt} {
		wantOf(t, l, node, 15, 100, 0)
	}
	wild := []api.Entry{{From: -1}, {From: math.MaxInt}, {From: -1}, {From: -1}}
	wantOf(t, wild, -1, 0, 1, 3)
	wantOf(t, wild, math.MaxInt, 0, 1, 1)
}

// P6.1: up to MaxLog all of them, beyond that the last ones.
func TestAdd(t *testing.T) {
	e := api.Entry{From: 77, At: 70000}
	for _, n := range []int{0, 1, 2, 62, 63, 64, 65, 66, 127, 128, 129, 1000} {
		all := append(many(n), e)
		got, full := log.Add(many(n), e)
		if full != (n >= 64) {
			t.Errorf("Add to %d notes: %t", n, full)
		}
		if want := all[max(0, len(all)-64):]; !slices.Equal(got, want) {
			t.Errorf("Add to %d notes: %v, not %v", n, got, want)
		}
	}
}

// P6.1: what fades does not hang on what is added: Add asks for no clock.
func TestAddKeepsOldOnes(t *testing.T) {
	l := []api.Entry{{From: 1, At: 40000}, {From: 1, At: -3}}
	got, full := log.Add(l, l[0])
	if full || !slices.Equal(got, []api.Entry{l[0], l[1], l[0]}) {
		t.Errorf("Add: %v %t", got, full)
	}
}

// Rules 4 and 5: no list that is handed in is changed or kept, not even behind its end.
func TestListsAreOwn(t *testing.T) {
	for _, n := range []int{1, 3, 63, 64, 65} {
		room := many(n + 8)
		before := slices.Clone(room)
		l := room[:n]
		added, _ := log.Add(l, api.Entry{From: 99, At: 9})
		purged := log.Purge(l, n, math.MaxInt)
		who := log.Who(l, n, math.MaxInt)
		if len(purged) != n || len(who) != min(n, 5) {
			t.Fatal("not all are alive", n)
		}
		if !slices.Equal(room, before) {
			t.Fatalf("the list that was handed in is changed: %v", room)
		}
		for _, list := range [][]api.Entry{added, purged} {
			clear(list)
			_ = append(list, api.Entry{From: 98, At: 8})
		}
		if !slices.Equal(room, before) {
			t.Fatalf("an answer shares memory with the list that was handed in: %v", room)
		}
	}
}

// P6.2
func TestPurgeOfPurge(t *testing.T) {
	source := rand.New(rand.NewSource(6))
	for range 2000 {
		now, width := source.Intn(70000), source.Intn(40000)
		l := make([]api.Entry, source.Intn(70))
		for i := range l {
			l[i] = api.Entry{From: source.Intn(13), At: now - 40000 + source.Intn(50000)}
		}
		once := log.Purge(l, now, width)
		wantAlive(t, once, now, width, once...)
		who := log.Who(l, now, width)
		if c := log.Count(l, now, width); c != len(who) || c > len(once) {
			t.Fatalf("Count %d, Who %v, Purge %v", c, who, once)
		}
		sum := 0
		for _, node := range who {
			sum += log.Of(l, node, now, width)
		}
		if sum != len(once) {
			t.Fatalf("%d notes are alive, of the nodes %d", len(once), sum)
		}
		wantAlive(t, l, now, width, slow(l, now, width)...)
	}
}

// slow is Purge, told by the chapter's words.
func slow(l []api.Entry, now, width int) []api.Entry {
	return slices.DeleteFunc(slices.Clone(l), func(e api.Entry) bool {
		age := ring.Signed(now, e.At)
		return age < 0 || age > width-1
	})
}

// P6.2: a note of now is alive, the next unit's is not yet.
func TestNotesOfNow(t *testing.T) {
	for _, now := range []int{0, 1, 32767, 32768, 65534, 65535} {
		for _, width := range []int{1, 2, 100, 32768, math.MaxInt} {
			note := api.Entry{From: 3, At: now}
			wantAlive(t, []api.Entry{note}, now, width, note)
			wantAlive(t, []api.Entry{{From: 3, At: ring.Add(now, 1)}}, now, width)
			wantAlive(t, []api.Entry{{From: 3, At: now + 1}}, now, width)
		}
	}
}
