package vote_test

import (
	"testing"

	"lagoon/api"
)

// TestLeaderByEachSet: with each set of servers that are for one, a leader is told just if they are a quorum, whoever is for another one.
func TestLeaderByEachSet(t *testing.T) {
	for _, w := range several() {
		all := w.voters(255)
		s := made(t, w)
		for _, me := range all {
			for set := range 128 {
				p := of(t, w, s, me, 5, z(5, 5))
				p.begins(t)
				for _, n := range all {
					if n == me {
						continue
					}
					if set>>n&1 == 1 {
						p.answers(t, n, x(me, 5, z(5, 5), 1), false)
					} else {
						p.answers(t, n, x(n, 4, z(5, 5), 1), false)
					}
				}
				if w.isQuorum(w.voters(uint8(set | 1<<me))) {
					p.leads(t, me)
				} else {
					p.nobody(t)
				}
			}
		}
		if t.Failed() {
			return
		}
	}
}

// TestOneLess: a quorum just, and with one server less.
func TestOneLess(t *testing.T) {
	for n := 1; n <= 7; n++ {
		p := begun(t, words{likes(n, 1), likes(n, 0)}, 0, 1, z(1, 1))
		for other := 1; other < n; other++ {
			if 2*other > n {
				p.leads(t, 0)
			} else {
				p.nobody(t)
			}
			p.answers(t, int8(other), x(0, 1, z(1, 1), 1), false)
		}
		p.leads(t, 0)
	}
}

// TestForTheSameWithAnotherHistory: a vote for the same server with another Current or Last is another vote.
func TestForTheSameWithAnotherHistory(t *testing.T) {
	own := x(1, 4, z(4, 4), 1)
	for _, other := range []api.Vote{x(1, 3, z(4, 4), 1), x(1, 4, z(3, 4), 1), x(1, 4, z(4, 3), 1), x(1, 3, z(9, 9), 1), x(0, 4, z(4, 4), 1)} {
		p := begun(t, four(), 1, 4, z(4, 4))
		p.answers(t, 0, other, false)
		p.nobody(t)
		p.answers(t, 2, other, false) // two are for it, but not the voter itself
		p.nobody(t)
		p.answers(t, 0, own, false)
		p.leads(t, 1)
	}
	for _, better := range []api.Vote{x(1, 5, z(4, 4), 1), x(1, 4, z(5, 4), 1), x(1, 4, z(4, 5), 1)} {
		p := begun(t, words{likes(5, 1), likes(5, 0)}, 1, 4, z(4, 4))
		p.answers(t, 0, own, false)
		p.answers(t, 2, better, true) // 0 is for 1, too, but by another vote
		p.nobody(t)
		p.answers(t, 3, better, false)
		p.leads(t, 1)
	}
}

// TestLeaderMayBeAnyThatCounts: one that told nothing itself, too.
func TestLeaderMayBeAnyThatCounts(t *testing.T) {
	for who := range int8(3) {
		for _, from := range []int8{1, 2} {
			p := begun(t, four(), 0, 1, z(1, 1))
			p.answers(t, from, x(who, 2, z(1, 1), 1), true)
			p.leads(t, who)
		}
	}
}

func TestLeaderByWeights(t *testing.T) {
	w := words{[]int{1, 3, 1}, likes(3, 4)}
	p := begun(t, w, 0, 1, z(1, 1))
	p.answers(t, 2, x(0, 1, z(1, 1), 1), false)
	p.nobody(t)
	p.answers(t, 1, x(0, 1, z(1, 1), 1), false)
	p.leads(t, 0)
	p = begun(t, w, 1, 0, z(0, 0))
	p.leads(t, 1)
	p.answers(t, 0, x(2, 9, z(9, 9), 1), true) // by its own weight
	p.leads(t, 2)
}

// TestLeaderByGroups: two of three groups, in each more than half.
func TestLeaderByGroups(t *testing.T) {
	p := begun(t, words{likes(6, 1), []int{0, 0, 2, 2, 5, 5}}, 0, 1, z(1, 1))
	for _, from := range []int8{2, 4, 1} {
		p.answers(t, from, x(0, 1, z(1, 1), 1), false)
		p.nobody(t)
	}
	p.answers(t, 5, x(0, 1, z(1, 1), 1), false)
	p.leads(t, 0)
	p.answers(t, 3, x(3, 1, z(1, 1), 1), true)
	p.nobody(t)
}
