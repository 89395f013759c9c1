package vote_test

import (
	"math"
	"testing"

	"lagoon/api"
	"lagoon/quorum"
	"lagoon/vote"
)

// TestNoVoter: a nil Voter, and one that New did not make, be there a System in it or not, takes nothing and tells nothing.
func TestNoVoter(t *testing.T) {
	one, three := made(t, words{[]int{1}, []int{0}}), made(t, words{likes(3, 1), likes(3, 0)})
	var plain vote.Voter
	for i, v := range []*vote.Voter{nil, &plain, new(vote.Voter), {System: one}, {System: three}, {System: &quorum.System{}}} {
		for range 2 {
			if got, e := v.Begin(); got != (api.Vote{}) || e != api.ErrArg {
				t.Errorf("P21.7: Begin of no Voter (%d) = %v, %d", i, got, e)
			}
			for _, n := range append([]int8{0, 1, 2, 3}, noServers...) {
				for _, round := range []int64{-1, 0, 1, 2, math.MaxInt64} {
					if other, e := v.Hear(n, x(1, 1, z(1, 1), round)); other || e != api.ErrArg {
						t.Errorf("P21.7: Hear(%d, ..) of no Voter (%d) = %v, %d", n, i, other, e)
					}
				}
			}
			if got := v.Vote(); got != (api.Vote{}) {
				t.Errorf("P21.7: Vote of no Voter (%d) = %v", i, got)
			}
			if got, is := v.Leader(); got != 0 || is {
				t.Errorf("P21.7: Leader of no Voter (%d) = %d, %v", i, got, is)
			}
		}
	}
}

// TestVotersAreTheirOwn: two of one System, of one server even, and one of another System know nothing of one another, and an election nothing of them.
func TestVotersAreTheirOwn(t *testing.T) {
	s := chance(9)
	for range 200 {
		w, other := s.words(), s.words()
		system := made(t, w)
		mine, theirs := w.voters(255), other.voters(255)
		all := []*pair{
			of(t, w, system, mine[0], 1, z(1, 1)),
			of(t, w, system, mine[0], 2, z(0, 1)),
			of(t, w, system, mine[len(mine)-1], 1, z(1, 2)),
			voter(t, other, theirs[0], 1, z(1, 1)),
		}
		for range 40 {
			p := all[s.IntN(len(all))]
			if s.IntN(6) == 0 {
				p.begins(t)
			} else {
				p.hears(t, s.server(), s.vote(p.round))
			}
			even(len(w.weights)).elects(t, w, system, uint8(s.Uint32()))
			for _, p := range all {
				p.looks(t, "what another Voter did")
			}
		}
		if t.Failed() {
			return
		}
	}
}
