package quorum_test

import (
	"math"
	"math/rand/v2"
	"testing"

	"lagoon/api"
)

// some gives systems and zxids by chance.
type some struct{ *rand.Rand }

func (s some) words() words {
	for {
		size, heavy, groups := 1+s.IntN(7), []int{2, 4, 101}[s.IntN(3)], 1+s.IntN(7)
		var w words
		for range size {
			weight := s.IntN(heavy)
			if s.IntN(6) == 0 {
				weight = 0
			}
			w.weights = append(w.weights, weight)
			w.groups = append(w.groups, 6-s.IntN(groups))
		}
		if w.counts() != 0 {
			return w
		}
	}
}

// zxid: few enough that they meet; and now and then one at a bound.
func (s some) zxid() api.Zxid {
	switch s.IntN(30) {
	case 0:
		return z(0, 0)
	case 1:
		return z(math.MaxUint32, s.Uint32())
	}
	return z(uint32(1+s.IntN(3)), uint32(s.IntN(6)))
}

func (s some) server() int8 {
	if s.IntN(10) == 0 {
		return noServers[s.IntN(len(noServers))]
	}
	return int8(s.IntN(7))
}

func TestByChance(t *testing.T) {
	s := some{rand.New(rand.NewPCG(20, 1))}
	for range 300 {
		w := s.words()
		looks(t, w, made(t, w))
	}
}

// TestAcksByChance holds an Acks against all that was ever put; that Committed never falls, and, with z committed, that a set in which nobody has acknowledged up to z is no quorum.
func TestAcksByChance(t *testing.T) {
	s := some{rand.New(rand.NewPCG(20, 2))}
	times := 0
	for range 300 {
		p := begun(t, s.words())
		last, was := z(0, 0), false
		for range 40 {
			p.puts(t, s.server(), s.zxid())
			got, is := p.a.Committed()
			if was && (!is || number(got) < number(last)) {
				t.Errorf("P20.4: Committed fell from %v to %v, %v", last, got, is)
			}
			last, was = got, is
			if is {
				times++
				p.lacked(t, got)
			}
		}
		if t.Failed() {
			return
		}
	}
	if times == 0 {
		t.Error("nothing was committed")
	}
}

// lacked goes through the sets in which nobody has acknowledged up to x.
func (p *pair) lacked(t *testing.T, x api.Zxid) {
	t.Helper()
	for set := range 256 {
		up := false
		for n := range int8(7) {
			got, is := p.a.Of(n)
			up = up || set>>n&1 == 1 && is && number(got) >= number(x)
		}
		if !up && p.a.Has(uint8(set)) {
			t.Errorf("P20.4: %v is committed, but %08b is a quorum of which nobody has it", x, set)
		}
	}
}

// TestAnyTwoMeet: two quorums have a server in common that counts; what holds a quorum is one.
func TestAnyTwoMeet(t *testing.T) {
	s := some{rand.New(rand.NewPCG(20, 3))}
	all := several()
	for range 60 {
		all = append(all, s.words())
	}
	for _, w := range all {
		system := made(t, w)
		var counts uint8
		for n := range int8(7) {
			if system.Counts(n) {
				counts |= 1 << n
			}
		}
		for a := range 256 {
			for b := range 256 {
				if !system.Has(uint8(a)) {
					continue
				}
				if system.Has(uint8(b)) && uint8(a&b)&counts == 0 {
					t.Errorf("P20.2: %v: %08b and %08b are quorums", w, a, b)
				}
				if !system.Has(uint8(a | b)) {
					t.Errorf("P20.2: %v: %08b is a quorum, with %08b it is none", w, a, b)
				}
			}
		}
	}
}

// TestEachHoldsALeast: each quorum has a part that is a least one, whose servers all count; no least one holds another one.
func TestEachHoldsALeast(t *testing.T) {
	s := some{rand.New(rand.NewPCG(20, 4))}
	all := several()
	for range 100 {
		all = append(all, s.words())
	}
	for _, w := range all {
		system := made(t, w)
		var leasts []uint8
		for set := range int(w.all()) + 1 {
			if system.Least(uint8(set)) {
				leasts = append(leasts, uint8(set))
			}
		}
		for _, a := range leasts {
			if !system.Has(a) || a&^w.counts() != 0 {
				t.Errorf("P20.2: %v: %08b is a least quorum", w, a)
			}
			for _, b := range leasts {
				if a != b && a&b == a {
					t.Errorf("P20.2: %v: %08b and %08b are least quorums", w, a, b)
				}
			}
		}
		for set := range 256 {
			holds := false
			for _, a := range leasts {
				holds = holds || a&^uint8(set) == 0
			}
			if holds != system.Has(uint8(set)) {
				t.Errorf("P20.2: %v: Has(%08b) = %v, it holds a least one: %v", w, set, !holds, holds)
			}
		}
	}
}

// TestTwoOfOneSystem: two Acks of one System, and one of another System, know nothing of one another.
func TestTwoOfOneSystem(t *testing.T) {
	s := some{rand.New(rand.NewPCG(20, 5))}
	for range 60 {
		w := s.words()
		system := made(t, w)
		all := []*pair{of(t, w, system), of(t, w, system), begun(t, s.words())}
		for range 40 {
			all[s.IntN(3)].puts(t, s.server(), s.zxid())
			for _, p := range all {
				p.looks(t, "a Put of another Acks")
			}
		}
		looks(t, w, system)
		of(t, w, system)
		if t.Failed() {
			return
		}
	}
}

// TestOrderSaysNothing: whatever the order in which zxids are put, the same is committed at the end.
func TestOrderSaysNothing(t *testing.T) {
	s := some{rand.New(rand.NewPCG(20, 6))}
	type ack struct {
		server int8
		z      api.Zxid
	}
	for range 100 {
		w := s.words()
		first := begun(t, w)
		var acks []ack
		for range 15 {
			acks = append(acks, ack{s.server(), s.zxid()})
			first.a.Put(acks[len(acks)-1].server, acks[len(acks)-1].z)
		}
		want, some := first.a.Committed()
		for range 5 {
			s.Shuffle(len(acks), func(i, j int) { acks[i], acks[j] = acks[j], acks[i] })
			p := begun(t, w)
			for _, x := range acks {
				p.a.Put(x.server, x.z)
			}
			if got, is := p.a.Committed(); got != want || is != some {
				t.Errorf("P20.4: %v: Committed = %v, %v, in another order %v, %v", w, want, some, got, is)
			}
		}
	}
}
