package queue_test

import (
	"math"
	"math/rand"
	"slices"
	"strconv"
	"testing"

	"bellwether/api"
	"bellwether/queue"
)

// many is n items that can be told apart; how long they wait differs too.
func many(n int) []api.Item {
	var out []api.Item
	for i := range n {
		out = append(out, api.Item{Age: 10 * i, Wait: i % 5, Bytes: strconv.Itoa(i)})
	}
	return out
}

func wantStep(t *testing.T, q, come, rest []api.Item) {
	t.Helper()
	c, r := queue.Step(q)
	if !slices.Equal(c, come) || !slices.Equal(r, rest) {
		t.Errorf("Step(%v): %v %v, not %v %v", q, c, r, come, rest)
	}
}

func wantDue(t *testing.T, q []api.Item, ticks, want int) {
	t.Helper()
	if got := queue.Due(q, ticks); got != want {
		t.Errorf("Due(%v, %d): %d, not %d", q, ticks, got, want)
	}
}

// P8.1: wherever the list is cut into what was there and what comes, the last 8 are left, as they were.
func TestPush(t *testing.T) {
	for n := range 30 {
		all := many(n)
		gone := max(0, n-8)
		for cut := range n + 1 {
			got, went := queue.Push(all[:cut], all[cut:]...)
			if !slices.Equal(got, all[gone:]) || went != gone {
				t.Errorf("%d behind %d: %v %d", n-cut, cut, got, went)
			}
		}
	}
}

// P8.1: a list that is too long already is cut though nothing comes; nothing and nothing is nothing.
func TestPushNone(t *testing.T) {
	if got, went := queue.Push(nil); len(got) != 0 || went != 0 {
		t.Error("nothing:", got, went)
	}
	if got, went := queue.Push([]api.Item{}, []api.Item{}...); len(got) != 0 || went != 0 {
		t.Error("empty lists:", got, went)
	}
	if got, went := queue.Push(many(8)); !slices.Equal(got, many(8)) || went != 0 {
		t.Error("just full:", got, went)
	}
	if got, went := queue.Push(many(1000)); !slices.Equal(got, many(1000)[992:]) || went != 992 {
		t.Error("too long:", got, went)
	}
}

// P8.1: items stay as they are, whatever they say, and the same one may be there twice.
func TestPushKeepsItems(t *testing.T) {
	wild := []api.Item{{Age: math.MinInt, Wait: math.MaxInt, Bytes: "\x00\xff"}, {Age: math.MaxInt, Wait: math.MinInt}, {}, {}}
	got, went := queue.Push(wild, wild...)
	if !slices.Equal(got, append(wild, wild...)) || went != 0 {
		t.Error("wild:", got, went)
	}
}

// P8.2, the chapter's example among them.
func TestStep(t *testing.T) {
	wantStep(t, nil, nil, nil)
	wantStep(t, []api.Item{{Wait: 1, Bytes: "a"}, {Wait: 3, Bytes: "b"}, {Wait: 1, Bytes: "c"}},
		[]api.Item{{Age: 1, Bytes: "a"}, {Age: 1, Bytes: "c"}}, []api.Item{{Age: 1, Wait: 2, Bytes: "b"}})
	wantStep(t, []api.Item{{Age: 4, Wait: 2, Bytes: "a"}, {Age: 9, Wait: 0, Bytes: "b"}, {Age: 2, Wait: 8, Bytes: "c"}},
		[]api.Item{{Age: 10, Bytes: "b"}}, []api.Item{{Age: 5, Wait: 1, Bytes: "a"}, {Age: 3, Wait: 7, Bytes: "c"}})
}

// P8.2: how long an item waits has no limit, either way.
func TestStepWait(t *testing.T) {
	for _, wait := range []int{1, 0, -1, -400, math.MinInt} {
		wantStep(t, []api.Item{{Wait: wait}}, []api.Item{{Age: 1}}, nil)
	}
	for _, wait := range []int{2, 3, 9, 65537, math.MaxInt} {
		wantStep(t, []api.Item{{Wait: wait}}, nil, []api.Item{{Age: 1, Wait: wait - 1}})
	}
}

// P8.2: ages go up to MaxCount, of those that come and of those that rest; one below 0 is 0 then.
func TestStepAge(t *testing.T) {
	for _, c := range []struct{ age, next int }{
		{0, 1}, {65533, 65534}, {65534, 65535}, {65535, 65535}, {65536, 65535}, {math.MaxInt, 65535}, {-1, 0}, {-7, 0}, {math.MinInt, 0},
	} {
		wantStep(t, []api.Item{{Age: c.age, Bytes: "x"}}, []api.Item{{Age: c.next, Bytes: "x"}}, nil)
		wantStep(t, []api.Item{{Age: c.age, Wait: 2}}, nil, []api.Item{{Age: c.next, Wait: 1}})
	}
}

// P8.2: a list that is longer than MaxQueue is stepped as a whole.
func TestStepLong(t *testing.T) {
	q := many(100)
	come, rest := queue.Step(q)
	if len(come) != 40 || len(rest) != 60 || queue.Due(q, 1) != 40 || queue.Due(q, 2) != 60 || queue.Due(q, 4) != 100 {
		t.Error("of 100:", len(come), len(rest))
	}
}

// P8.2
func TestDue(t *testing.T) {
	q := []api.Item{{Wait: 1}, {Wait: 3}, {Wait: -4}, {Wait: 0}, {Wait: math.MaxInt}, {Wait: math.MinInt}}
	for _, c := range []struct{ ticks, want int }{{1, 4}, {2, 4}, {3, 5}, {4, 5}, {math.MaxInt - 1, 5}, {math.MaxInt, 6}} {
		wantDue(t, q, c.ticks, c.want)
	}
	for _, ticks := range []int{0, -1, -4, -5, math.MinInt} {
		wantDue(t, q, ticks, 0)
	}
	wantDue(t, nil, 5, 0)
}

// P8.3: each item comes with the step that its Wait says, once, as old as it was and one more for each step; none is lost.
func TestEachComesOnce(t *testing.T) {
	source := rand.New(rand.NewSource(8))
	for range 500 {
		q := make([]api.Item, source.Intn(20))
		for i := range q {
			q[i] = api.Item{Age: source.Intn(100), Wait: source.Intn(14) - 3, Bytes: strconv.Itoa(i)}
		}
		came, rest := 0, q
		for step := 1; step <= 12; step++ {
			var come, want []api.Item
			for _, v := range q {
				if max(v.Wait, 1) == step {
					want = append(want, api.Item{Age: v.Age + step, Bytes: v.Bytes})
				}
			}
			if come, rest = queue.Step(rest); !slices.Equal(come, want) {
				t.Fatalf("with step %d come %v, not %v", step, come, want)
			}
			came += len(come)
			wantDue(t, q, step, came)
			if came+len(rest) != len(q) {
				t.Fatalf("of %d came %d, and %d rest", len(q), came, len(rest))
			}
		}
	}
}

// P8.3: what is pushed between the steps comes too, unless it went, and those that went are counted.
func TestNoneIsLostWhilePushed(t *testing.T) {
	source := rand.New(rand.NewSource(38))
	var q, come []api.Item
	next, lost, seen := 0, 0, map[string]int{}
	for range 5000 {
		var v []api.Item
		for range source.Intn(4) {
			v = append(v, api.Item{Wait: source.Intn(9), Bytes: strconv.Itoa(next)})
			next++
		}
		went := 0
		q, went = queue.Push(q, v...)
		lost += went
		come, q = queue.Step(q)
		for _, item := range come {
			seen[item.Bytes]++
		}
	}
	for bytes, n := range seen {
		if n != 1 {
			t.Errorf("%s came %d times", bytes, n)
		}
	}
	if lost == 0 || len(seen)+len(q)+lost != next {
		t.Errorf("of %d came %d, %d went, %d rest", next, len(seen), lost, len(q))
	}
}

// Rules 4 and 5: no list that is handed in is changed, kept or shared, not even behind its end, and the answers share none with each other.
func TestListsAreOwn(t *testing.T) {
	for _, n := range []int{1, 3, 7, 8, 9, 20} {
		room := many(n + 8)
		before := slices.Clone(room)
		v := many(2)
		alone, _ := queue.Push(room[:n])
		both, _ := queue.Push(room[:n], v...)
		behind, _ := queue.Push(nil, room[:n]...)
		come, rest := queue.Step(room[:n])
		kept := slices.Clone(rest)
		clear(come)
		_ = append(come, many(n)...)
		if !slices.Equal(rest, kept) {
			t.Fatalf("what comes shares memory with what rests: %v", rest)
		}
		for _, list := range [][]api.Item{alone, both, behind, rest} {
			clear(list)
			_ = append(list, many(9)...)
		}
		if !slices.Equal(room, before) || !slices.Equal(v, many(2)) {
			t.Fatalf("a list that was handed in is changed: %v %v", room, v)
		}
	}
}
