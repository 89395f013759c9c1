package store_test

import (
	"fmt"
	"math"
	"testing"

	"lagoon/api"
)

// TestAccept: each edge of the epoch: the one that is there, one above, the last, one above that.
func TestAccept(t *testing.T) {
	for _, accepted := range []uint32{0, 1, 2, 1 << 16, api.LastEpoch - 1, api.LastEpoch} {
		for _, current := range []uint32{0, accepted / 2, accepted} {
			s := served(api.Manifest{Boot: 3, Accepted: accepted, Current: current, Snap: 1, Log: 2}, "1.1", "1.2")
			for _, epoch := range []uint32{0, 1, 2, 3, current, accepted - 1, accepted, accepted + 1, accepted + 2, api.LastEpoch - 1, api.LastEpoch, api.LastEpoch + 1, math.MaxUint32} {
				what := fmt.Sprintf("P12.2: Accept(%d), where %d is accepted", epoch, accepted)
				c := s.booted().accept(epoch)
				d, x := c.begun(t, api.MaxRoom)
				n := d.Writes()
				if int64(epoch) <= int64(accepted) || int64(epoch) > 1<<31-1 {
					answers(t, what, x.Accept(epoch), api.ErrEpoch)
					counted(t, what, d, n)
					agrees(t, what, d, x, c.before)
					continue
				}
				answers(t, what, x.Accept(epoch), api.OK)
				counted(t, what, d, n+3)
				agrees(t, what, d, x, c.after)
				answers(t, what+", again", x.Accept(epoch), api.ErrEpoch)
			}
		}
	}
}

// TestLead: each edge of the epoch.
func TestLead(t *testing.T) {
	for _, accepted := range []uint32{0, 1, 2, 1 << 16, api.LastEpoch - 1, api.LastEpoch} {
		for _, current := range []uint32{0, accepted / 2, accepted - min(accepted, 1), accepted} {
			s := served(api.Manifest{Boot: 3, Accepted: accepted, Current: current, Log: 2}, "", "1.2")
			for _, epoch := range []uint32{0, 1, 2, current, current + 1, accepted - 1, accepted, accepted + 1, api.LastEpoch, api.LastEpoch + 1, math.MaxUint32} {
				what := fmt.Sprintf("P12.2: Lead(%d), where %d is accepted, %d current", epoch, accepted, current)
				c := s.booted().lead(epoch)
				d, x := c.begun(t, api.MaxRoom)
				n := d.Writes()
				if epoch != accepted || epoch <= current {
					answers(t, what, x.Lead(epoch), api.ErrEpoch)
					counted(t, what, d, n)
					agrees(t, what, d, x, c.before)
					continue
				}
				answers(t, what, x.Lead(epoch), api.OK)
				counted(t, what, d, n+3)
				agrees(t, what, d, x, c.after)
				answers(t, what+", again", x.Lead(epoch), api.ErrEpoch)
			}
		}
	}
}

// TestEpochsOff: without power that comes first, also where the epoch may not be.
func TestEpochsOff(t *testing.T) {
	s := served(api.Manifest{Boot: 3, Accepted: 5, Current: 2, Log: 2}, "", "1.2")
	d, x := started(t, s)
	d.Off()
	for _, epoch := range []uint32{0, 2, 5, 6, api.LastEpoch + 1} {
		answers(t, "P12.2: Accept, off", x.Accept(epoch), api.ErrDown)
		answers(t, "P12.2: Lead, off", x.Lead(epoch), api.ErrDown)
	}
	tells(t, "P12.2: off", x, s.booted())
}

// TestEpochsExample: the first half of example 2.
func TestEpochsExample(t *testing.T) {
	d := diskOf(t)
	s := opened(t, d, 2)
	answers(t, "example 2: Accept(3)", s.Accept(3), api.OK)
	counted(t, "example 2: Accept(3)", d, 5+3)
	answers(t, "example 2: Accept(3)", s.Accept(3), api.ErrEpoch)
	answers(t, "example 2: Lead(2)", s.Lead(2), api.ErrEpoch)
	answers(t, "example 2: Lead(3)", s.Lead(3), api.OK)
	answers(t, "example 2: Lead(3)", s.Lead(3), api.ErrEpoch)
	agrees(t, "example 2", d, s, served(api.Manifest{Boot: 1, Accepted: 3, Current: 3, Log: 1}, "", ""))
}
