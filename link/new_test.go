package link_test

import (
	"math"
	"testing"

	"lagoon/api"
	"lagoon/link"
)

func TestNewOfEachNumber(t *testing.T) {
	for servers := -300; servers <= 600; servers++ {
		n, e := link.New(servers)
		is := servers >= 1 && servers <= 7
		if (n != nil) != is || (e == api.OK) != is || !is && e != api.ErrArg {
			t.Errorf("P22.1: New(%d) = %v, %d", servers, n, e)
		}
	}
	for _, servers := range []int{math.MinInt, math.MinInt32, math.MaxInt32, math.MaxInt, 1 << 32, 1<<32 + 1, 1<<32 + 7} {
		if n, e := link.New(servers); n != nil || e != api.ErrArg {
			t.Errorf("P22.1: New(%d) = %v, %d", servers, n, e)
		}
	}
}

// TestNewHasNothingUnderWay: no number is a place.
func TestNewHasNothingUnderWay(t *testing.T) {
	for servers := range 7 {
		p := begun(t, servers+1)
		for _, place := range append([]int{0, 1, servers}, noPlaces...) {
			p.lacks(t, place)
		}
	}
}

// TestNone: a nil net, and one that New did not make, do nothing and tell nothing.
func TestNone(t *testing.T) {
	var plain link.Net
	for i, n := range []*link.Net{nil, &plain, new(link.Net)} {
		for range 2 {
			for _, e := range []api.Errno{
				n.Send(0, 1, []byte{1}), n.Send(1, 0, make([]byte, api.MaxPacket)), n.Send(0, 0, nil), n.Send(-1, 7, nil),
				n.Double(0), n.Double(-1), n.Double(1),
				n.Spoil(0, 0, 1), n.Spoil(-1, 0, 1), n.Spoil(1, 1, 1), n.Spoil(0, -1, 0),
			} {
				if e != api.ErrArg {
					t.Errorf("R3: no net (%d) answers %d", i, e)
				}
			}
			for _, place := range append([]int{0, 1}, noPlaces...) {
				if m, e := n.Take(place); seen(m) != (sent{}) || len(m.Bytes) != 0 || e != api.ErrArg {
					t.Errorf("R3: Take(%d) of no net (%d) = %v, %d", place, i, m, e)
				}
			}
			if n.Len() != 0 || len(n.All()) != 0 {
				t.Errorf("P22.4: no net (%d) has %d: %v", i, n.Len(), n.All())
			}
		}
	}
}

// TestNetsAreTheirOwn: what is done to one is not seen in another one.
func TestNetsAreTheirOwn(t *testing.T) {
	b := []byte("shared")
	one, two := begun(t, 7), begun(t, 7)
	for _, p := range []*pair{one, two} {
		for to := int8(1); to < 7; to++ {
			if e, model := p.n.Send(0, to, b), p.send(0, to, "shared"); e != api.OK || model != api.OK {
				t.Fatalf("P22.2: Send(0, %d, ..) = %d", to, e)
			}
		}
	}
	one.spoils(t, 2, 3, 1, api.OK)
	one.takes(t, 0, api.OK)
	one.doubles(t, 4, api.OK)
	two.looks(t, "what was done to another net")
	two.spoils(t, 2, 3, 255, api.OK)
	two.takes(t, 5, api.OK)
	one.looks(t, "what was done to another net")
	two.looks(t, "its own calls")
}
