package rules

import (
	"testing"

	"bellwether/api"
)

// The document's section 'Words' names each error's number.
func TestErrors(t *testing.T) {
	errors := []api.Errno{
		api.OK, api.ErrNil, api.ErrArg, api.ErrForm, api.ErrSum, api.ErrShort, api.ErrLong, api.ErrNode, api.ErrConf,
		api.ErrFull, api.ErrLate, api.ErrSlot, api.ErrOwner, api.ErrTwice, api.ErrMute, api.ErrText, api.ErrWord, api.ErrRate,
	}
	for want, e := range errors {
		if int(e) != want {
			t.Errorf("the error at place %d is %d", want, e)
		}
	}
}

// The document's section 'Words' names each limit.
func TestLimits(t *testing.T) {
	for _, c := range []struct {
		name      string
		got, want int
	}{
		{"MinNodes", api.MinNodes, 4}, {"MaxNodes", api.MaxNodes, 13}, {"MaxFaulty", api.MaxFaulty, 4}, {"MaxDelay", api.MaxDelay, 4},
		{"MaxPeriod", api.MaxPeriod, 400}, {"MaxRate", api.MaxRate, 64}, {"MaxSlots", api.MaxSlots, 32}, {"MaxMod", api.MaxMod, 250},
		{"MaxFresh", api.MaxFresh, 100}, {"MaxText", api.MaxText, 16}, {"MaxQueue", api.MaxQueue, 8}, {"MaxLog", api.MaxLog, 64},
		{"MaxCount", api.MaxCount, 65535}, {"Wrap", api.Wrap, 65536}, {"MaxTicks", api.MaxTicks, 2000}, {"MaxEvents", api.MaxEvents, 40},
		{"MaxPacket", api.MaxPacket, 40}, {"MaxImage", api.MaxImage, 8000}, {"MaxWait", api.MaxWait, 8},
		{"DiagForm", api.DiagForm, 0}, {"DiagLate", api.DiagLate, 1}, {"DiagRate", api.DiagRate, 2},
		{"DiagTwice", api.DiagTwice, 3}, {"DiagFull", api.DiagFull, 4}, {"DiagWord", api.DiagWord, 5},
	} {
		if c.got != c.want {
			t.Errorf("%s is %d, not %d", c.name, c.got, c.want)
		}
	}
}
