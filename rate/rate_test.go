package rate_test

import (
	"math"
	"math/rand"
	"slices"
	"testing"

	"bellwether/api"
	"bellwether/log"
	"bellwether/rate"
	"bellwether/ring"
)

func note(from, at int) api.Entry {
	return api.Entry{From: from, At: at}
}

// crowd is n notes at one time, each of a node of its own.
func crowd(n, at int) []api.Entry {
	var out []api.Entry
	for i := range n {
		out = append(out, note(1000+i, at))
	}
	return out
}

func wantTake(t *testing.T, l []api.Entry, from, now, width, limit int, e api.Errno, want ...api.Entry) {
	t.Helper()
	got, err := rate.Take(l, from, now, width, limit)
	if err != e || !slices.Equal(got, want) {
		t.Errorf("Take(%v, %d, %d, %d, %d): %v %d, not %v %d", l, from, now, width, limit, got, err, want, e)
	}
}

func wantRoom(t *testing.T, l []api.Entry, from, now, width, limit, want int) {
	t.Helper()
	if got := rate.Room(l, from, now, width, limit); got != want {
		t.Errorf("Room(%v, %d, %d, %d, %d): %d, not %d", l, from, now, width, limit, got, want)
	}
}

// P7.1: a note is added behind the others, and those that are not alive go.
func TestTake(t *testing.T) {
	wantTake(t, nil, 2, 5, 4, 1, api.OK, note(2, 5))
	wantTake(t, []api.Entry{}, 2, 5, 4, 1, api.OK, note(2, 5))
	l := []api.Entry{note(2, 5), note(3, 7), note(2, 8), note(4, 11)}
	wantTake(t, l, 2, 8, 4, 3, api.OK, l[0], l[1], l[2], note(2, 8))
	wantTake(t, l, 2, 9, 4, 2, api.OK, l[1], l[2], note(2, 9))
	wantTake(t, l, 5, 11, 4, 1, api.OK, l[2], l[3], note(5, 11))
	wantTake(t, l, 2, 500, 4, 1, api.OK, note(2, 500))
}

// P7.1: with limit or more of that node it is refused, and what is not alive goes all the same.
func TestTakeTooMany(t *testing.T) {
	l := []api.Entry{note(2, 5), note(3, 7), note(2, 8), note(4, 11)}
	wantTake(t, l, 2, 8, 4, 2, api.ErrRate, l[:3]...)
	wantTake(t, l, 2, 8, 4, 1, api.ErrRate, l[:3]...)
	wantTake(t, l, 2, 9, 4, 1, api.ErrRate, l[1], l[2])
	wantTake(t, l, 3, 9, 4, 1, api.ErrRate, l[1], l[2])
	wantTake(t, l, 4, 12, 2, 1, api.ErrRate, l[3])
}

// P7.1: of a limit of 0 and below nobody is taken, though nothing is there.
func TestTakeNoLimit(t *testing.T) {
	for _, limit := range []int{0, -1, -64, math.MinInt} {
		wantTake(t, nil, 2, 5, 4, limit, api.ErrRate)
		wantTake(t, []api.Entry{note(3, 5), note(3, 1)}, 2, 5, 4, limit, api.ErrRate, note(3, 5))
	}
}

// P7.1: of a width of 0 and below nothing is alive, so that each one is the first.
func TestTakeNoWidth(t *testing.T) {
	for _, width := range []int{0, -1, math.MinInt} {
		wantTake(t, []api.Entry{note(2, 5), note(3, 5)}, 2, 5, width, 1, api.OK, note(2, 5))
		wantTake(t, []api.Entry{note(2, 5), note(3, 5)}, 2, 5, width, 0, api.ErrRate)
	}
}

// P7.1: the note is of now as clocks have it, whatever number is handed in; nodes have any number.
func TestTakeClock(t *testing.T) {
	for _, c := range []struct{ now, at int }{
		{0, 0}, {65535, 65535}, {65536, 0}, {65536 + 9, 9}, {-1, 65535}, {-65537, 65535}, {math.MaxInt, 65535}, {math.MinInt, 0},
	} {
		for _, from := range []int{math.MinInt, -1, 0, 12, 13, math.MaxInt} {
			wantTake(t, nil, from, c.now, 4, 1, api.OK, note(from, c.at))
			wantTake(t, []api.Entry{note(from, c.at)}, from, c.now, 1, 1, api.ErrRate, note(from, c.at))
		}
	}
	turn := []api.Entry{note(1, 65534), note(1, 65535)}
	wantTake(t, turn, 1, 1, 4, 3, api.OK, turn[0], turn[1], note(1, 1))
	wantTake(t, turn, 1, 1, 3, 3, api.OK, turn[1], note(1, 1))
	wantTake(t, turn, 1, 65536+1, 4, 2, api.ErrRate, turn...)
}

// P7.1: up to MaxLog no note goes; beyond that the oldest ones do, and what is left is answered.
func TestTakeFull(t *testing.T) {
	for _, n := range []int{1, 62, 63, 64, 65, 200} {
		l := crowd(n, 1)
		want, e := append(slices.Clone(l), note(7, 2)), api.OK
		if n >= 64 {
			want, e = want[len(want)-64:], api.ErrFull
		}
		wantTake(t, l, 7, 2, 9, 1, e, want...)
	}
	wantTake(t, append(crowd(200, 1), note(7, 40)), 7, 41, 9, 2, api.OK, note(7, 40), note(7, 41))
}

// P7.1: who sends too much is told ahead of a list that is full, and nobody's note goes for it.
func TestTakeTooManyAndFull(t *testing.T) {
	for _, n := range []int{64, 65, 200} {
		l := crowd(n, 1)
		wantTake(t, l, 1000, 2, 9, 1, api.ErrRate, l...)
		wantTake(t, l, 7, 2, 9, 0, api.ErrRate, l...)
	}
	l := crowd(64, 1)
	wantTake(t, l, 1000, 2, 9, 2, api.ErrFull, append(l[1:], note(1000, 2))...)
}

// P7.2
func TestRoom(t *testing.T) {
	l := []api.Entry{note(2, 5), note(3, 7), note(2, 8), note(4, 11)}
	wantRoom(t, l, 2, 8, 4, 5, 3)
	wantRoom(t, l, 2, 9, 4, 5, 4)
	wantRoom(t, l, 2, 8, 4, 2, 0)
	wantRoom(t, l, 2, 8, 4, 1, 0)
	wantRoom(t, l, 3, 8, 4, 1, 0)
	wantRoom(t, l, 4, 8, 4, 1, 1)
	wantRoom(t, l, 9, 8, 4, 7, 7)
	wantRoom(t, l, 2, 65536+8, 4, 5, 3)
	wantRoom(t, nil, 2, 8, 4, 5, 5)
	wantRoom(t, l, 2, 8, 4, math.MaxInt, math.MaxInt-2)
	wantRoom(t, l, 2, 8, 0, math.MaxInt, math.MaxInt)
	for _, limit := range []int{0, -1, -5, math.MinInt + 1, math.MinInt} {
		wantRoom(t, l, 2, 8, 4, limit, 0)
		wantRoom(t, l, 9, 8, 4, limit, 0)
	}
}

// P7.2, the chapter's example among them.
func TestMany(t *testing.T) {
	l, taken := rate.Many(nil, 5, 4, 1, 2, 2, 3)
	if !slices.Equal(l, []api.Entry{note(2, 5), note(3, 5)}) || !slices.Equal(taken, []bool{true, false, true}) {
		t.Error("limit 1:", l, taken)
	}
	l, taken = rate.Many([]api.Entry{note(1, 5), note(2, 1), note(2, 4)}, 5, 4, 2, 2, 1, 2, 1, 9)
	if !slices.Equal(l, []api.Entry{note(1, 5), note(2, 4), note(2, 5), note(1, 5), note(9, 5)}) || !slices.Equal(taken, []bool{true, true, false, false, true}) {
		t.Error("limit 2:", l, taken)
	}
}

// P7.2: of nobody the notes stay, dead ones and too many ones too.
func TestManyOfNone(t *testing.T) {
	for _, l := range [][]api.Entry{nil, {}, {note(2, 5), note(2, 40000), note(3, -7)}, crowd(200, 1)} {
		for _, limit := range []int{math.MinInt, 0, 1} {
			got, taken := rate.Many(l, 500, 1, limit)
			if !slices.Equal(got, l) || len(taken) != 0 {
				t.Error("nobody:", got, taken)
			}
		}
	}
}

// P7.2: one for whom the oldest note went was taken.
func TestManyFull(t *testing.T) {
	l, taken := rate.Many(crowd(63, 1), 2, 9, 1, 7, 8, 7, 1063, 1000)
	want := append(crowd(63, 1)[2:], note(7, 2), note(8, 2), note(1063, 2))
	if !slices.Equal(taken, []bool{true, true, false, true, true}) || !slices.Equal(l, append(want[1:], note(1000, 2))) {
		t.Error("full:", l, taken)
	}
}

// P7.2: held against Take, one after another.
func TestManyIsTakes(t *testing.T) {
	source := rand.New(rand.NewSource(7))
	for range 2000 {
		l, now, width, limit := anything(source)
		from := make([]int, source.Intn(90))
		for i := range from {
			from[i] = source.Intn(6)
		}
		got, taken := rate.Many(l, now, width, limit, from...)
		want, e := l, api.OK
		for i, node := range from {
			if want, e = rate.Take(want, node, now, width, limit); taken[i] != (e != api.ErrRate) {
				t.Fatalf("at place %d: %t, but %d", i, taken[i], e)
			}
		}
		if !slices.Equal(got, want) || len(taken) != len(from) {
			t.Fatalf("Many: %v, not %v", got, want)
		}
	}
}

// anything is notes of few nodes around now, some of them not alive.
func anything(source *rand.Rand) (l []api.Entry, now, width, limit int) {
	now, width, limit = source.Intn(3*api.Wrap)-api.Wrap, source.Intn(12)-1, source.Intn(20)-1
	l = make([]api.Entry, source.Intn(80))
	for i := range l {
		l[i] = note(source.Intn(5), now-12+source.Intn(15))
	}
	return l, now, width, limit
}

// P7.3: while there are no more than MaxLog notes, as many of each node are taken as there was room for, whoever else comes.
func TestNobodyIsRefusedForAnother(t *testing.T) {
	source := rand.New(rand.NewSource(73))
	for range 3000 {
		l, now, width, limit := anything(source)
		width = max(width, 1)
		alive := len(log.Purge(l, now, width))
		if alive >= api.MaxLog {
			continue
		}
		from := make([]int, 1+source.Intn(api.MaxLog-alive))
		came, took := [5]int{}, [5]int{}
		for i := range from {
			from[i] = source.Intn(5)
			came[from[i]]++
		}
		after, taken := rate.Many(l, now, width, limit, from...)
		for i, ok := range taken {
			if ok {
				took[from[i]]++
			}
		}
		for node := range 5 {
			if room := rate.Room(l, node, now, width, limit); took[node] != min(came[node], room) {
				t.Fatalf("of %d there was room for %d, %d came, %d were taken", node, room, came[node], took[node])
			}
			had, has := log.Of(l, node, now, width), log.Of(after, node, now, width)
			if has != had+took[node] || has > max(had, limit) {
				t.Fatalf("of %d %d are alive, limit %d, ahead of it %d", node, has, limit, had)
			}
		}
	}
}

// P7.3: notes that are not alive do not matter; of nobody more than limit are alive, though a log is full.
func TestDeadNotesDoNotMatter(t *testing.T) {
	source := rand.New(rand.NewSource(37))
	for range 3000 {
		l, now, width, limit := anything(source)
		node := source.Intn(5)
		alive := log.Purge(l, now, width)
		want, e := rate.Take(alive, node, now, width, limit)
		wantTake(t, l, node, now, width, limit, e, want...)
		wantRoom(t, l, node, now, width, limit, rate.Room(alive, node, now, width, limit))
		got, _ := rate.Many(l, now, width, limit, node)
		for other := range 5 {
			had, has := log.Of(alive, other, now, width), log.Of(got, other, now, width)
			if has > max(had, limit) {
				t.Fatalf("of %d %d are alive, limit %d, ahead of it %d", other, has, limit, had)
			}
		}
		if e != api.ErrRate && want[len(want)-1] != note(node, ring.Put(now)) {
			t.Fatalf("the last note is %v", want[len(want)-1])
		}
	}
}

// Rules 4 and 5: no list that is handed in is changed, kept or shared, not even behind its end.
func TestListsAreOwn(t *testing.T) {
	for _, n := range []int{1, 3, 63, 64, 65} {
		room := crowd(n+8, 5)
		from := []int{1, 2, 3}
		before := slices.Clone(room)
		l := room[:n]
		taken, _ := rate.Take(l, 9, 5, 4, 1)
		refused, _ := rate.Take(l, 1000, 5, 4, 1)
		many, _ := rate.Many(l, 5, 4, 1, from...)
		late, _ := rate.Many(l, 5, 4, 0, from...)
		none, _ := rate.Many(l, 5, 4, 1)
		for _, list := range [][]api.Entry{taken, refused, many, late, none} {
			if len(list) < min(n, 64) {
				t.Fatal("not all are alive", n, list)
			}
			clear(list)
			_ = append(list, note(98, 8))
		}
		if !slices.Equal(room, before) || !slices.Equal(from, []int{1, 2, 3}) {
			t.Fatalf("a list that was handed in is changed: %v %v", room, from)
		}
	}
}
