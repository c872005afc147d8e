package hold_test

import (
	"math"
	"math/rand"
	"slices"
	"strconv"
	"strings"
	"testing"

	"bellwether/api"
	"bellwether/hold"
)

// sized is a plain configuration of n nodes, whose frames take d ticks at most.
func sized(n, d int) api.Conf {
	c := api.Conf{N: n, F: (n - 1) / 3, D: d, Period: api.MaxPeriod, Rate: 64, Offset: 64, Slot: 190, Mod: 10, Fresh: 3}
	for slot := range n {
		c.Table = append(c.Table, slot)
	}
	return c
}

// confs are plain configurations with each delay that there can be, of few nodes and of the most.
func confs() []api.Conf {
	return []api.Conf{sized(4, 1), sized(4, 2), sized(7, 3), sized(5, 4), sized(13, 1), sized(13, 4)}
}

// wrongConfs are configurations that are not plain, with their errors.
func wrongConfs() map[api.Errno]api.Conf {
	out := map[api.Errno]api.Conf{}
	for e, turn := range map[api.Errno]func(c *api.Conf){
		api.ErrNode: func(c *api.Conf) { c.F = 2 },
		api.ErrLate: func(c *api.Conf) { c.D = 5 },
		api.ErrConf: func(c *api.Conf) { c.Fresh = 0 },
		api.ErrSlot: func(c *api.Conf) { c.Table = []int{0, 1, 2} },
	} {
		c := sized(4, 2)
		turn(&c)
		out[e] = c
	}
	return out
}

// wildNumbers are numbers at which a call might go wrong.
func wildNumbers() []int {
	return []int{math.MinInt, math.MinInt + 1, -1 << 32, -5, -2, -1, 0, 1, 2, 3, 4, 5, 12, 13, 14, 1 << 32, math.MaxInt - 1, math.MaxInt}
}

// full is a list that fits, with another text at each place.
func full(c api.Conf) []string {
	var out []string
	for i := range c.N * c.D {
		out = append(out, strconv.Itoa(i))
	}
	return out
}

func wantPut(t *testing.T, c api.Conf, h []string, from, age int, bytes string, want []string) []string {
	t.Helper()
	got, e := hold.Put(c, h, from, age, bytes)
	if e != api.OK || !slices.Equal(got, want) {
		t.Errorf("Put(%q, %d, %d, %q): %q %d, not %q", h, from, age, bytes, got, e, want)
	}
	return got
}

func wantRefused(t *testing.T, c api.Conf, h []string, from, age int, bytes string, want api.Errno) {
	t.Helper()
	before := slices.Clone(h)
	got, e := hold.Put(c, h, from, age, bytes)
	if e != want || len(got) != 0 {
		t.Errorf("Put(%q, %d, %d, %q): %q %d, not %d", h, from, age, bytes, got, e, want)
	}
	if !slices.Equal(h, before) {
		t.Errorf("a refused frame changed %q to %q", before, h)
	}
}

func wantTake(t *testing.T, c api.Conf, h, now, rest []string) {
	t.Helper()
	n, r := hold.Take(c, h)
	if !slices.Equal(n, now) || !slices.Equal(r, rest) {
		t.Errorf("Take(%q): %q %q, not %q %q", h, n, r, now, rest)
	}
}

func wantHeld(t *testing.T, c api.Conf, h []string, from, want int) {
	t.Helper()
	if got := hold.Held(c, h, from); got != want {
		t.Errorf("Held(%q, %d): %d, not %d", h, from, got, want)
	}
}

// P12.1
func TestEmpty(t *testing.T) {
	for _, c := range confs() {
		if got := hold.Empty(c); !slices.Equal(got, make([]string, c.N*c.D)) {
			t.Errorf("Empty of %d nodes, delay %d: %q", c.N, c.D, got)
		}
	}
}

// P12.1: of what is not plain nothing is held, taken or told, though a list has N times D places.
func TestNotPlain(t *testing.T) {
	wrong := []api.Conf{{}, {N: math.MaxInt, D: math.MaxInt}, {N: math.MinInt, D: 2}, {N: -4, D: -2}, {N: 1 << 62, D: 4}, {N: 0, D: 8}}
	for _, c := range wrongConfs() {
		wrong = append(wrong, c)
	}
	for _, c := range wrong {
		if got := hold.Empty(c); len(got) != 0 {
			t.Errorf("Empty(%#v): %q", c, got)
		}
		for _, places := range []int{0, 1, 8, 20} {
			h := slices.Repeat([]string{"x"}, places)
			wantTake(t, c, h, nil, nil)
			for _, from := range wildNumbers() {
				wantHeld(t, c, h, from, 0)
			}
		}
	}
}

// P12.2: of each node and age at its own place, and nothing else is changed.
func TestPut(t *testing.T) {
	for _, c := range confs() {
		for from := range c.N {
			for age := 1; age <= c.D; age++ {
				at := from*c.D + c.D - age
				want := make([]string, c.N*c.D)
				want[at] = "frame"
				wantPut(t, c, hold.Empty(c), from, age, "frame", want)
				among := full(c)
				among[at] = ""
				want = full(c)
				want[at] = "frame"
				wantPut(t, c, among, from, age, "frame", want)
				wantRefused(t, c, full(c), from, age, "frame", api.ErrTwice)
				wantRefused(t, c, want, from, age, "frame", api.ErrTwice)
			}
		}
	}
}

// P12.2, written out: two ticks, what is young stands behind what is old.
func TestPutPlaces(t *testing.T) {
	c := sized(4, 2)
	h := wantPut(t, c, hold.Empty(c), 1, 1, "young", []string{"", "", "", "young", "", "", "", ""})
	h = wantPut(t, c, h, 1, 2, "old", []string{"", "", "old", "young", "", "", "", ""})
	h = wantPut(t, c, h, 3, 1, "b", []string{"", "", "old", "young", "", "", "", "b"})
	wantPut(t, c, h, 0, 2, "c", []string{"c", "", "old", "young", "", "", "", "b"})
}

// P12.2: bytes of any kind, from one to 40 of them.
func TestPutBytes(t *testing.T) {
	c := sized(4, 1)
	for n := 1; n <= 40; n++ {
		for _, b := range []string{"x", "\x00", "\xff"} {
			bytes := strings.Repeat(b, n)
			wantPut(t, c, hold.Empty(c), 2, 1, bytes, []string{"", "", bytes, ""})
		}
	}
	wantPut(t, c, hold.Empty(c), 2, 1, strings.Repeat("é", 20), []string{"", "", strings.Repeat("é", 20), ""})
	wantRefused(t, c, hold.Empty(c), 2, 1, "", api.ErrShort)
	for _, n := range []int{41, 42, 296, 5000} {
		wantRefused(t, c, hold.Empty(c), 2, 1, strings.Repeat("x", n), api.ErrLong)
	}
	wantRefused(t, c, hold.Empty(c), 2, 1, strings.Repeat("é", 21), api.ErrLong)
}

// P12.2: nodes and ages beyond their limits.
func TestPutNumbers(t *testing.T) {
	for _, c := range confs() {
		for _, from := range wildNumbers() {
			for _, age := range wildNumbers() {
				want := api.OK
				if from < 0 || from >= c.N {
					want = api.ErrNode
				} else if age < 1 || age > c.D {
					want = api.ErrLate
				}
				if _, e := hold.Put(c, hold.Empty(c), from, age, "x"); e != want {
					t.Errorf("Put of %d, %d with %d nodes, delay %d: %d, not %d", from, age, c.N, c.D, e, want)
				}
			}
		}
	}
}

// P12.2, P8: of several faults the one that the chapter names first is told, each in its turn.
func TestPutOrder(t *testing.T) {
	long := strings.Repeat("x", 41)
	for e, c := range wrongConfs() {
		wantRefused(t, c, nil, -1, 0, "", e)
		wantRefused(t, c, make([]string, 8), 0, 1, "x", e)
		wantRefused(t, c, []string{"x"}, 9, 9, long, e)
	}
	c := sized(4, 2)
	for _, places := range []int{0, 1, 4, 7, 9, 16} {
		wantRefused(t, c, slices.Repeat([]string{"x"}, places), 4, 3, long, api.ErrArg)
		wantRefused(t, c, make([]string, places), 0, 1, "x", api.ErrArg)
	}
	h := full(c)
	for _, bytes := range []string{"", "x", long} {
		wantRefused(t, c, h, 4, 3, bytes, api.ErrNode)
		wantRefused(t, c, h, -1, 1, bytes, api.ErrNode)
		wantRefused(t, c, h, 3, 3, bytes, api.ErrLate)
		wantRefused(t, c, h, 3, 0, bytes, api.ErrLate)
	}
	wantRefused(t, c, h, 3, 2, "", api.ErrShort)
	wantRefused(t, c, h, 3, 2, long, api.ErrLong)
	wantRefused(t, c, h, 3, 2, long[:40], api.ErrTwice)
	h[6] = ""
	if _, e := hold.Put(c, h, 3, 2, long[:40]); e != api.OK {
		t.Error("nothing wrong any more:", e)
	}
}

// P12.3
func TestTake(t *testing.T) {
	wantTake(t, sized(4, 1), []string{"a", "", "c", "d"}, []string{"a", "", "c", "d"}, make([]string, 4))
	wantTake(t, sized(4, 2), []string{"a", "b", "", "d", "e", "", "", ""}, []string{"a", "", "e", ""}, []string{"b", "", "d", "", "", "", "", ""})
	for _, c := range confs() {
		now, rest := make([]string, c.N), make([]string, c.N*c.D)
		for i, s := range full(c) {
			if i%c.D == 0 {
				now[i/c.D] = s
			} else {
				rest[i-1] = s
			}
		}
		wantTake(t, c, full(c), now, rest)
		wantTake(t, c, hold.Empty(c), make([]string, c.N), hold.Empty(c))
	}
}

// P12.3: of what does not fit none is taken and none is told; texts in a list may be of any length.
func TestTakeAndHeldFit(t *testing.T) {
	c := sized(4, 2)
	for _, places := range []int{0, 1, 4, 7, 9, 16} {
		h := slices.Repeat([]string{"x"}, places)
		wantTake(t, c, h, nil, nil)
		for from := range 4 {
			wantHeld(t, c, h, from, 0)
		}
	}
	wantTake(t, c, nil, nil, nil)
	wantHeld(t, c, nil, 0, 0)
	long := strings.Repeat("\xff", 5000)
	wantTake(t, c, slices.Repeat([]string{long}, 8), []string{long, long, long, long}, []string{long, "", long, "", long, "", long, ""})
	wantHeld(t, c, slices.Repeat([]string{long}, 8), 3, 2)
}

// P12.3
func TestHeld(t *testing.T) {
	c := sized(4, 3)
	h := []string{"", "", "", "a", "", "", "", "b", "c", "d", "e", "\x00"}
	for from, want := range []int{0, 1, 2, 3} {
		wantHeld(t, c, h, from, want)
	}
	for _, from := range wildNumbers() {
		if from < 0 || from > 3 {
			wantHeld(t, c, h, from, 0)
		}
	}
	for _, c := range confs() {
		for from := range c.N {
			wantHeld(t, c, full(c), from, c.D)
			wantHeld(t, c, hold.Empty(c), from, 0)
		}
	}
}

// P12.4, the chapter's example.
func TestExample(t *testing.T) {
	c := sized(4, 2)
	for age, want := range map[int]int{1: 2, 2: 1} {
		h, _ := hold.Put(c, hold.Empty(c), 2, age, "x")
		for take := 1; take <= 3; take++ {
			var now []string
			now, h = hold.Take(c, h)
			if (now[2] == "x") != (take == want) {
				t.Errorf("age %d, take %d: %q", age, take, now)
			}
		}
	}
}

// P12.4: each frame is taken when it is D ticks old, once, whatever else comes, and of each tick's no second one.
func TestEachIsTakenAtItsAge(t *testing.T) {
	source := rand.New(rand.NewSource(12))
	for _, c := range confs() {
		h := hold.Empty(c)
		due := map[[2]int]string{} // by the tick at which it is D ticks old, and the sender
		for tick := range 400 {
			for n := range source.Intn(3 * c.N) {
				from, age := source.Intn(c.N), 1+source.Intn(c.D)
				bytes := strconv.Itoa(tick) + " " + strconv.Itoa(n)
				key := [2]int{tick + c.D - age, from}
				next, e := hold.Put(c, h, from, age, bytes)
				if due[key] != "" {
					if e != api.ErrTwice {
						t.Fatalf("a second frame: %d", e)
					}
					continue
				}
				if e != api.OK {
					t.Fatalf("a first frame: %d", e)
				}
				due[key], h = bytes, next
			}
			for from := range c.N {
				want := 0
				for later := range c.D {
					if due[[2]int{tick + later, from}] != "" {
						want++
					}
				}
				wantHeld(t, c, h, from, want)
			}
			var now []string
			now, h = hold.Take(c, h)
			for from := range c.N {
				if now[from] != due[[2]int{tick, from}] {
					t.Fatalf("at tick %d of node %d: %q, not %q", tick, from, now[from], due[[2]int{tick, from}])
				}
			}
		}
	}
}

// Rules 4 and 5: no list that is handed in is changed, kept or shared, not even behind its end, and the answers share none with each other.
func TestListsAreOwn(t *testing.T) {
	for _, c := range confs() {
		fit := c.N * c.D
		room := append(full(c), "behind", "the", "end")
		room[fit-1] = ""
		before := slices.Clone(room)
		put, _ := hold.Put(c, room[:fit], c.N-1, 1, "x")
		now, rest := hold.Take(c, room[:fit])
		keptRest := slices.Clone(rest)
		clear(now)
		_ = append(now, "x", "y")
		if !slices.Equal(rest, keptRest) {
			t.Fatalf("what is taken shares memory with the rest: %q", rest)
		}
		for _, list := range [][]string{put, rest} {
			clear(list)
			_ = append(list, "x", "y")
		}
		if !slices.Equal(room, before) {
			t.Fatalf("a list that was handed in is changed: %q", room)
		}
	}
}

// Rule 5: what is written into a list later is seen by no answer; one Empty is none of another's.
func TestListsAreNotKept(t *testing.T) {
	c := sized(4, 2)
	h := full(c)
	h[7] = ""
	put, _ := hold.Put(c, h, 3, 1, "x")
	now, rest := hold.Take(c, h)
	first := hold.Empty(c)
	clear(h)
	for i := range first {
		first[i] = "x"
	}
	if put[0] != "0" || put[7] != "x" || now[0] != "0" || rest[0] != "1" || !slices.Equal(hold.Empty(c), make([]string, 8)) {
		t.Errorf("%q %q %q", put, now, rest)
	}
	if !slices.Equal(c.Table, []int{0, 1, 2, 3}) {
		t.Error("changed:", c.Table)
	}
}
