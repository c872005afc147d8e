package samples_test

import (
	"math/rand"
	"strings"
	"testing"

	"bellwether/api"
	"bellwether/conf"
	"bellwether/samples"
)

func TestPlainOnes(t *testing.T) {
	for _, c := range append(samples.Confs(), samples.Small()) {
		if e := conf.Plain(c); e != api.OK {
			t.Errorf("%v: %d", c, e)
		}
		if got := samples.Length(c); got != conf.Length(c) {
			t.Errorf("%v: Length %d", c, got)
		}
	}
}

func TestWrongOnes(t *testing.T) {
	seen := map[api.Errno]int{}
	for _, c := range samples.Wrong() {
		seen[conf.Plain(c)]++
	}
	if seen[api.OK] > 0 || len(seen) != 4 {
		t.Errorf("errors %v", seen)
	}
}

// A configuration is new each time, so that a test that writes into it spoils no other one.
func TestNewEachTime(t *testing.T) {
	samples.Small().Table[0] = 9
	samples.Confs()[0].Table[0] = 9
	samples.Wrong()[4].Table[0] = 9
	if samples.Small().Table[0] != 0 || samples.Confs()[0].Table[0] != 0 || samples.Wrong()[4].Table[0] != 0 {
		t.Error("a table is shared")
	}
}

func TestText(t *testing.T) {
	text := samples.Text(rand.New(rand.NewSource(1)).Intn, 5000, "01")
	usual := strings.Count(text, "0") + strings.Count(text, "1")
	if len(text) != 5000 || usual < 4300 || usual > 4800 {
		t.Errorf("%d of %d bytes are usual", usual, len(text))
	}
}
