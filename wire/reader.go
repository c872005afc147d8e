package wire

import (
	"bellwether/api"
	"bellwether/num"
)

// reader reads bytes one behind the other. Beyond their end there are only numbers 0 and empty texts.
type reader struct {
	bytes string
	at    int
}

func (r *reader) number() int {
	n, e := num.Get(r.bytes, r.at, 1)
	if e != api.OK {
		return 0
	}
	r.at++
	return n
}

// text is the next n bytes, or those that are left.
func (r *reader) text(n int) string {
	from := r.at
	r.at = min(from+n, len(r.bytes))
	return r.bytes[from:r.at]
}

// packetReader reads a packet with so many votes, and so many bits in its part of the cycle's instance.
type packetReader struct {
	reader
	rounds, bits int
}

func (r *packetReader) read() api.Packet {
	head := r.number()
	p := api.Packet{Votes: r.digits(r.rounds)}
	if head&withPart != 0 {
		p.Ex = r.number()
		p.Vec = r.digits(r.bits)
	}
	if head&withMessage != 0 {
		p.Slot = r.number()
		p.Cycle = r.number()
		p.Text = r.text(r.number())
	}
	return p
}

// digits may be 3 too, which no packet that is right has.
func (r *packetReader) digits(n int) string {
	out := make([]byte, n)
	packed := 0
	for i := range n {
		if i%perByte == 0 {
			packed = r.number()
		}
		out[i] = byte('0' + packed&digitMask)
		packed >>= digitBits
	}
	return string(out)
}
