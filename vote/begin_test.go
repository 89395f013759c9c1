package vote_test

import (
	"math"
	"testing"

	"lagoon/api"
)

func TestBeginCountsRounds(t *testing.T) {
	p := voter(t, four(), 1, 2, z(1, 7))
	for round := int64(1); round <= 100; round++ {
		p.begins(t)
		p.votes(t, x(1, 2, z(1, 7), round))
		p.nobody(t)
	}
}

// TestBeginAlone: who is a quorum by itself leads as soon as it begins.
func TestBeginAlone(t *testing.T) {
	for _, w := range []words{{[]int{1}, []int{6}}, {[]int{3, 1, 1}, likes(3, 0)}, {[]int{1, 0, 0}, []int{0, 1, 2}}} {
		p := begun(t, w, 0, 0, z(0, 0))
		p.leads(t, 0)
		p.begins(t)
		p.leads(t, 0)
	}
}

// TestBeginForgets: what it had heard, and the vote that it had from that.
func TestBeginForgets(t *testing.T) {
	p := begun(t, four(), 0, 1, z(1, 5))
	p.answers(t, 1, x(1, 2, z(2, 5), 1), true)
	p.leads(t, 1)
	p.begins(t)
	p.votes(t, x(0, 1, z(1, 5), 2))
	p.nobody(t)
	p.answers(t, 2, x(1, 2, z(2, 5), 2), true) // 1 is not known to be for itself in this round
	p.leads(t, 1)
	p.answers(t, 2, x(2, 3, z(1, 1), 2), true)
	p.leads(t, 2)
	p.answers(t, 1, x(0, 1, z(1, 5), 2), false)
	p.begins(t)
	p.answers(t, 1, x(0, 1, z(1, 5), 2), false) // of the round ahead
	p.nobody(t)
	p.answers(t, 1, x(0, 1, z(1, 5), 3), false)
	p.leads(t, 0)
	p.begins(t)
	p.nobody(t)
}

// TestBeginForgetsTheBest: a worse vote than the one of the round ahead is taken.
func TestBeginForgetsTheBest(t *testing.T) {
	p := begun(t, four(), 2, 5, z(5, 5))
	p.answers(t, 1, x(0, 4, z(4, 4), 1), false)
	p.begins(t)
	p.answers(t, 1, x(2, 5, z(5, 5), 2), false)
	p.leads(t, 2)
	p.begins(t)
	p.answers(t, 1, x(0, 0, z(0, 0), 3), false)
	p.nobody(t)
	p.answers(t, 0, x(2, 5, z(5, 5), 3), false)
	p.leads(t, 2)
}

// TestBeginBehindALaterRound goes on from the round that it heard of.
func TestBeginBehindALaterRound(t *testing.T) {
	for _, round := range []int64{2, 9, 1 << 31, 1 << 32, math.MaxInt64 - 1} {
		p := begun(t, four(), 0, 1, z(1, 5))
		p.answers(t, 1, x(1, 2, z(1, 1), round), true)
		p.leads(t, 1)
		p.begins(t)
		p.votes(t, x(0, 1, z(1, 5), round+1))
		p.nobody(t)
	}
}

// TestBeginBehindTheLastRound: refused, and nothing has changed; what comes in that round is heard.
func TestBeginBehindTheLastRound(t *testing.T) {
	p := begun(t, four(), 0, 1, z(1, 5))
	p.answers(t, 1, x(1, 2, z(1, 1), math.MaxInt64), true)
	for range 3 {
		if got, e := p.v.Begin(); got != (api.Vote{}) || e != api.ErrSpent {
			t.Errorf("P21.3: Begin behind the last round = %v, %d", got, e)
		}
		p.begins(t)
		p.votes(t, x(1, 2, z(1, 1), math.MaxInt64))
		p.leads(t, 1)
	}
	p.answers(t, 2, x(2, 2, z(1, 1), math.MaxInt64-1), false)
	p.leads(t, 1)
	p.answers(t, 2, x(2, 2, z(1, 1), math.MaxInt64), true)
	p.leads(t, 2)
	p.begins(t)
	p.leads(t, 2)
}

// TestBeginToTheLastRound: it is a round like others.
func TestBeginToTheLastRound(t *testing.T) {
	p := begun(t, four(), 0, 1, z(1, 5))
	p.answers(t, 1, x(1, 2, z(1, 1), math.MaxInt64-1), true)
	if got, e := p.v.Begin(); got != x(0, 1, z(1, 5), math.MaxInt64) || e != api.OK {
		t.Fatalf("P21.3: Begin = %v, %d", got, e)
	}
	p.round, p.took = math.MaxInt64, nil
	p.looks(t, "Begin")
	p.begins(t)
	p.votes(t, x(0, 1, z(1, 5), math.MaxInt64))
}
