package link_test

import (
	"math"
	"strings"
	"testing"

	"lagoon/api"
)

// TestSendOfEachTwo: all pairs of numbers, in nets of each size.
func TestSendOfEachTwo(t *testing.T) {
	for servers := 1; servers <= 7; servers++ {
		p := begun(t, servers)
		for a := range 256 {
			for b := range 256 {
				from, to := int8(a-128), int8(b-128)
				if e, want := p.n.Send(from, to, []byte{byte(a), byte(b)}), p.send(from, to, string([]byte{byte(a), byte(b)})); e != want {
					t.Errorf("P22.2: of %d servers: Send(%d, %d, ..) = %d, not %d", servers, from, to, e, want)
				}
			}
		}
		p.looks(t, "Sends from each number to each")
		if got := p.n.Len(); got != servers*(servers-1) {
			t.Errorf("P22.2: of %d servers: %d are under way", servers, got)
		}
	}
}

// TestSendRefuses: at each of the bounds, and nothing changes.
func TestSendRefuses(t *testing.T) {
	most := strings.Repeat("m", 8192)
	for _, servers := range []int{1, 2, 3, 7} {
		p := begun(t, servers)
		if servers > 1 {
			p.sends(t, 0, 1, "first", api.OK)
			p.doubles(t, 0, api.OK)
			p.spoils(t, 0, 0, 1, api.OK)
		}
		last := int8(servers - 1)
		for _, text := range []string{"", "a", most, most + "m", most + most} {
			for _, no := range append([]int8{last + 1}, noServers...) {
				p.sends(t, 0, no, text, api.ErrArg)
				p.sends(t, no, last, text, api.ErrArg)
				p.sends(t, no, no, text, api.ErrArg)
			}
			for same := range last + 1 {
				p.sends(t, same, same, text, api.ErrArg)
			}
		}
		if servers > 1 {
			for _, text := range []string{"", most + "m", most + most} {
				p.sends(t, 0, last, text, api.ErrArg)
				p.sends(t, last, 0, text, api.ErrArg)
			}
		}
	}
}

// TestSendOfNil: no bytes, be there a list or none, with spare room or without.
func TestSendOfNil(t *testing.T) {
	p := with(t, "a")
	for _, b := range [][]byte{nil, {}, []byte("ab")[:0]} {
		if e := p.n.Send(0, 1, b); e != api.ErrArg {
			t.Errorf("P22.2: Send of no bytes = %d", e)
		}
		p.looks(t, "a Send of no bytes")
	}
}

// TestSendOfEachSize: up to the most, and around it.
func TestSendOfEachSize(t *testing.T) {
	p := begun(t, 2)
	for _, size := range []int{1, 2, 3, 7, 8, 9, 16, 17, 255, 256, 257, 4095, 4096, 4097, 4130, 4131, 8190, 8191, 8192} {
		p.sends(t, 1, 0, strings.Repeat("\x80", size), api.OK)
	}
	for _, size := range []int{0, 8193, 8194, 16384, 1 << 16, 1<<16 + 1, 1 << 20} {
		p.sends(t, 1, 0, strings.Repeat("\x80", size), api.ErrArg)
	}
}

// TestSendOfAnyBytes: they need be no packet's, and the same may be sent again.
func TestSendOfAnyBytes(t *testing.T) {
	p := begun(t, 7)
	all := make([]byte, 256)
	for i := range all {
		all[i] = byte(i)
		p.sends(t, int8(i%7), int8((i+3)%7), string(all[i:i+1]), api.OK)
	}
	for range 3 {
		p.sends(t, 6, 5, string(all), api.OK)
		p.sends(t, 5, 6, string(all), api.OK)
	}
}

// TestSendStandsBehind: whatever was taken out ahead of it, or doubled.
func TestSendStandsBehind(t *testing.T) {
	p := with(t, five()...)
	p.takes(t, 0, api.OK)
	p.sends(t, 1, 2, "behind", api.OK)
	p.doubles(t, 1, api.OK)
	p.sends(t, 2, 1, "and behind", api.OK)
	p.takes(t, p.n.Len()-1, api.OK)
	p.sends(t, 0, 6, "at last", api.OK)
	for p.n.Len() > 0 && !t.Failed() {
		p.takes(t, 0, api.OK)
	}
	p.sends(t, 0, 6, "alone", api.OK)
	p.has(t, of(0, 6, "alone"))
}

// TestMany: there is no bound to how many are under way.
func TestMany(t *testing.T) {
	p := begun(t, 2)
	for i := range 70_000 {
		text := string([]byte{byte(i), byte(i >> 8), byte(i >> 16)})
		if e := p.n.Send(int8(i&1), int8(1-i&1), []byte(text)); e != api.OK {
			t.Fatalf("P22.2: Send of the %dth = %d", i, e)
		}
		p.all = append(p.all, of(int8(i&1), int8(1-i&1), text))
	}
	p.looks(t, "many Sends")
	p.takes(t, 65_536, api.OK)
	p.takes(t, 255, api.OK)
	p.doubles(t, 65_535, api.OK)
	p.spoils(t, 69_998, 2, math.MaxUint8, api.OK)
	p.lacks(t, 69_999)
}
