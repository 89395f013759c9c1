package vote_test

import (
	"math"
	"slices"
	"testing"

	"lagoon/api"
	"lagoon/quorum"
	"lagoon/vote"
)

// history is what a server has, by server.
type history struct {
	current []uint32
	last    []api.Zxid
}

// even is one in which all servers have the same.
func even(n int) history {
	return history{slices.Repeat([]uint32{3}, n), slices.Repeat([]api.Zxid{z(2, 8)}, n)}
}

// best is the one that Elect is to tell: the greatest of those that vote, if these are a quorum.
func (h history) best(w words, set uint8) (int8, bool) {
	voters := w.voters(set)
	if !w.isQuorum(voters) {
		return 0, false
	}
	return slices.MaxFunc(voters, func(a, b int8) int { return order(h.vote(a), h.vote(b)) }), true
}

func (h history) vote(n int8) api.Vote { return x(n, h.current[n], h.last[n], 1) }

func (h history) elects(t *testing.T, w words, s *quorum.System, set uint8) {
	t.Helper()
	want, some := h.best(w, set)
	if got, is := vote.Elect(s, set, h.current, h.last); got != want || is != some {
		t.Errorf("P21.6: %v: Elect(%08b, %v, %v) = %d, %v, not %d, %v", w, set, h.current, h.last, got, is, want, some)
	}
}

func electsNobody(t *testing.T, s *quorum.System, set uint8, h history) {
	t.Helper()
	if got, is := vote.Elect(s, set, h.current, h.last); got != 0 || is {
		t.Errorf("P21.6: Elect(%08b, %v, %v) = %d, %v", set, h.current, h.last, got, is)
	}
}

// TestElectOfNoSystem: with as many elements as it has servers, and with others.
func TestElectOfNoSystem(t *testing.T) {
	var plain quorum.System
	for _, s := range []*quorum.System{nil, &plain, new(quorum.System), {}} {
		for n := range 9 {
			for _, set := range []uint8{0, 1, 7, 127, 255} {
				electsNobody(t, s, set, even(n))
			}
		}
	}
}

// TestElectOfListsThatDoNotFit: with one element too few or too many, in one of them or in both; nil among them.
func TestElectOfListsThatDoNotFit(t *testing.T) {
	for n := 1; n <= 7; n++ {
		w := words{likes(n, 1), likes(n, 0)}
		s := made(t, w)
		for currents := range 10 {
			for lasts := range 10 {
				h := history{even(currents).current, even(lasts).last}
				if currents == n && lasts == n {
					h.elects(t, w, s, 255)
				} else {
					electsNobody(t, s, 255, h)
				}
			}
		}
		electsNobody(t, s, 255, history{nil, even(n).last})
		electsNobody(t, s, 255, history{even(n).current, nil})
	}
}

// TestElectByEachSet: each system, each set of servers, those that do not count and bits of no server too; who has most is another one each time.
func TestElectByEachSet(t *testing.T) {
	for _, w := range several() {
		s := made(t, w)
		n := len(w.weights)
		for set := range 256 {
			even(n).elects(t, w, s, uint8(set))
		}
		for most := range n {
			h := even(n)
			h.last[most] = z(2, 9)
			for set := range 256 {
				h.elects(t, w, s, uint8(set))
			}
		}
		if t.Failed() {
			return
		}
	}
}

// TestElectByOneThing: who has most of it is told, up to the bounds, where all else is the same.
func TestElectByOneThing(t *testing.T) {
	w := words{likes(5, 1), likes(5, 0)}
	s := made(t, w)
	for who := range int8(5) {
		for i, more := range ends {
			for _, less := range ends[:i] {
				for _, put := range []func(h history, n int8, x uint32){
					func(h history, n int8, x uint32) { h.current[n] = x },
					func(h history, n int8, x uint32) { h.last[n].Epoch = x },
					func(h history, n int8, x uint32) { h.last[n].N = x },
				} {
					h := even(5)
					for n := range int8(5) {
						put(h, n, less)
					}
					put(h, who, more)
					if got, is := vote.Elect(s, 31, h.current, h.last); got != who || !is {
						t.Errorf("P21.6: Elect(31, %v, %v) = %d, %v", h.current, h.last, got, is)
					}
				}
			}
		}
	}
}

// TestElectOfEqualHistories: the greatest number that votes and counts.
func TestElectOfEqualHistories(t *testing.T) {
	w := words{[]int{1, 1, 1, 1, 1, 0, 0}, likes(7, 0)}
	s := made(t, w)
	for _, c := range []struct {
		set uint8
		who int8
	}{{7, 2}, {11, 3}, {19, 4}, {31, 4}, {127, 4}, {255, 4}, {7 + 32 + 64, 2}, {15, 3}} {
		if got, is := vote.Elect(s, c.set, even(7).current, even(7).last); got != c.who || !is {
			t.Errorf("P21.6: Elect(%08b) of equal histories = %d, %v, not %d", c.set, got, is, c.who)
		}
	}
}

// TestElectWithoutThoseThatDoNotCount: they are no part of a quorum, and do not lead, whatever they have.
func TestElectWithoutThoseThatDoNotCount(t *testing.T) {
	w := words{[]int{1, 0, 1, 0, 1}, likes(5, 2)}
	s := made(t, w)
	h := even(5)
	h.current[1], h.current[3], h.last[3] = 9, math.MaxUint32, z(math.MaxUint32, math.MaxUint32)
	h.current[0] = 4
	for set := range 256 {
		h.elects(t, w, s, uint8(set))
	}
	for _, set := range []uint8{0, 2, 8, 10, 1, 11, 1 + 10 + 32 + 64 + 128, 128} {
		electsNobody(t, s, set, h)
	}
	for _, set := range []uint8{5, 15, 21, 31, 255, 17} {
		if got, is := vote.Elect(s, set, h.current, h.last); got != 0 || !is {
			t.Errorf("P21.6: Elect(%08b) = %d, %v", set, got, is)
		}
	}
}

// TestElectWithoutThoseThatDoNotVote: who has most does not lead, if it is not of the set.
func TestElectWithoutThoseThatDoNotVote(t *testing.T) {
	w := words{likes(5, 1), likes(5, 0)}
	s := made(t, w)
	h := even(5)
	for n := range 5 {
		h.last[n] = z(2, uint32(20-n))
	}
	for set, who := range map[uint8]int8{31: 0, 30: 1, 28: 2, 7: 0, 14: 1, 26: 1, 21: 0} {
		if got, is := vote.Elect(s, set, h.current, h.last); got != who || !is {
			t.Errorf("P21.6: Elect(%08b) = %d, %v, not %d", set, got, is, who)
		}
	}
}

// TestElectAlone: a quorum of one elects itself, and has nobody to tell.
func TestElectAlone(t *testing.T) {
	for me := range 7 {
		w := words{likes(7, 0), likes(7, 6)}
		w.weights[me] = 1
		s := made(t, w)
		if got, is := vote.Elect(s, 1<<me, even(7).current, even(7).last); got != int8(me) || !is {
			t.Errorf("P21.6: Elect of %d alone = %d, %v", me, got, is)
		}
		electsNobody(t, s, ^uint8(1<<me), even(7))
	}
}

// TestElectLeavesTheLists: their spare room too; and what is done with them behind the answer says nothing.
func TestElectLeavesTheLists(t *testing.T) {
	for _, w := range several() {
		s := made(t, w)
		n := len(w.weights)
		roomy := func() history {
			h := even(20)
			for i := range h.current {
				h.current[i], h.last[i] = uint32(i*i%5), z(uint32(i%3), uint32(100-i))
			}
			return h
		}
		h := roomy()
		for set := range 256 {
			cut := history{h.current[:n], h.last[:n]}
			cut.elects(t, w, s, uint8(set))
			electsNobody(t, s, uint8(set), history{h.current[:n], h.last[:n-1]})
		}
		if want := roomy(); !slices.Equal(h.current, want.current) || !slices.Equal(h.last, want.last) {
			t.Errorf("P21.6: Elect changed the lists to %v, %v", h.current, h.last)
		}
	}
}
