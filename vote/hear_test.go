package vote_test

import (
	"math"
	"testing"

	"lagoon/api"
)

// wrong are hearings of the voter 0 of four() that may not be, for one thing or for several.
func wrong() []heard {
	good := x(1, 9, z(9, 9), 1)
	out := []heard{{0, good}, {3, good}, {4, good}}
	for _, n := range append([]int8{3, 4, 5, 6}, noServers...) {
		y := good
		y.For = n
		out = append(out, heard{n, good}, heard{1, y}, heard{0, y}, heard{n, y})
	}
	for _, round := range []int64{0, -1, -2, math.MinInt32, math.MinInt64} {
		y := good
		y.Round = round
		out = append(out, heard{1, y}, heard{0, y}, heard{3, y}, heard{-1, y})
		y.For = 3
		out = append(out, heard{1, y}, heard{7, y})
	}
	return append(out, heard{}, heard{1, api.Vote{}})
}

// TestHearWrong: refused, and nothing has changed, in any round.
func TestHearWrong(t *testing.T) {
	p := begun(t, four(), 0, 1, z(1, 5))
	all := func() {
		t.Helper()
		for _, h := range wrong() {
			p.refuses(t, h.from, h.x, api.ErrArg)
		}
	}
	all()
	p.votes(t, x(0, 1, z(1, 5), 1))
	p.nobody(t)
	p.answers(t, 1, x(1, 2, z(1, 1), 4), true)
	all()
	p.votes(t, x(1, 2, z(1, 1), 4))
	p.leads(t, 1)
	p.begins(t)
	all()
	p.nobody(t)
}

// TestHearAheadOfTheFirstBegin: ErrArg comes first; and nothing of what was refused is known behind it.
func TestHearAheadOfTheFirstBegin(t *testing.T) {
	p := voter(t, four(), 0, 1, z(1, 5))
	for _, h := range wrong() {
		p.refuses(t, h.from, h.x, api.ErrArg)
	}
	for _, round := range []int64{1, 2, 9, math.MaxInt64} {
		for _, from := range []int8{1, 2} {
			for who := range int8(3) {
				p.refuses(t, from, x(who, 9, z(9, 9), round), api.ErrServer)
				p.refuses(t, from, x(who, 1, z(1, 5), round), api.ErrServer)
			}
		}
	}
	p.votes(t, x(0, 1, z(1, 5), 0))
	p.nobody(t)
	p.begins(t)
	p.votes(t, x(0, 1, z(1, 5), 1))
	p.nobody(t)
}

// TestHearEachNumber: each from and each For, of voters of each system.
func TestHearEachNumber(t *testing.T) {
	for _, w := range several() {
		for _, me := range w.voters(255) {
			for n := range 256 {
				server := int8(n - 128)
				for _, other := range append(w.voters(255), 5, 7, -1) {
					p := begun(t, w, me, 2, z(2, 2))
					p.hears(t, server, x(other, 2, z(2, 3), 1))
					p.hears(t, other, x(server, 2, z(2, 4), 1))
				}
			}
		}
	}
}

// TestHearOfAnOlderRound: nothing changes, however good the vote is.
func TestHearOfAnOlderRound(t *testing.T) {
	p := begun(t, four(), 0, 1, z(1, 5))
	p.answers(t, 1, x(1, 2, z(1, 1), 4), true)
	for _, round := range []int64{1, 2, 3} {
		p.answers(t, 1, x(2, 9, z(9, 9), round), false)
		p.answers(t, 2, x(2, 9, z(9, 9), round), false)
		p.answers(t, 2, x(0, 0, z(0, 0), round), false)
		p.answers(t, 1, x(0, 0, z(0, 0), round), false)
		p.votes(t, x(1, 2, z(1, 1), 4))
		p.leads(t, 1)
	}
	p.begins(t)
	p.answers(t, 1, x(0, 1, z(1, 5), 4), false)
	p.nobody(t)
}

// TestHearOfALaterRound: with a vote that is better than the one for itself, with the same, and with one that is not.
func TestHearOfALaterRound(t *testing.T) {
	for _, round := range []int64{2, 3, 100, 1 << 31, 1<<32 + 1, math.MaxInt64} {
		for _, c := range []struct{ heard, own api.Vote }{
			{x(1, 2, z(0, 0), round), x(1, 2, z(0, 0), round)},
			{x(1, 1, z(1, 5), round), x(1, 1, z(1, 5), round)},
			{x(2, 1, z(1, 6), round), x(2, 1, z(1, 6), round)},
			{x(0, 1, z(1, 5), round), x(0, 1, z(1, 5), round)},
			{x(0, 1, z(1, 6), round), x(0, 1, z(1, 6), round)},
			{x(0, 1, z(1, 4), round), x(0, 1, z(1, 5), round)},
			{x(2, 1, z(1, 4), round), x(0, 1, z(1, 5), round)},
			{x(2, 0, z(9, 9), round), x(0, 1, z(1, 5), round)},
		} {
			p := begun(t, four(), 0, 1, z(1, 5))
			p.answers(t, 1, c.heard, true)
			p.votes(t, c.own)
			if c.heard == c.own {
				p.leads(t, c.own.For)
			} else {
				p.nobody(t)
			}
			p.answers(t, 1, c.heard, false)
			p.answers(t, 2, c.own, false)
			p.leads(t, c.own.For)
		}
	}
}

// TestLaterRoundForgets: the vote of the round ahead, and what was heard in it, of him who tells of the later one too.
func TestLaterRoundForgets(t *testing.T) {
	p := begun(t, words{likes(5, 1), likes(5, 0)}, 0, 1, z(1, 5))
	p.answers(t, 1, x(4, 9, z(9, 9), 1), true)
	p.answers(t, 2, x(4, 9, z(9, 9), 1), false)
	p.leads(t, 4)
	p.answers(t, 1, x(1, 0, z(0, 0), 2), true)
	p.votes(t, x(0, 1, z(1, 5), 2))
	p.nobody(t)
	p.answers(t, 3, x(0, 1, z(1, 5), 2), false)
	p.answers(t, 1, x(0, 1, z(1, 5), 2), false)
	p.leads(t, 0)
	p.answers(t, 4, x(4, 9, z(9, 9), 2), true)
	p.nobody(t) // 1 and 2 were for 4, a round ago
	p.answers(t, 3, x(4, 9, z(9, 9), 3), true)
	p.nobody(t)
	p.answers(t, 2, x(4, 9, z(9, 9), 3), false)
	p.leads(t, 4)
	p.answers(t, 1, x(4, 9, z(9, 9), 4), true)
	p.nobody(t)
}

// TestHearTwice: the same of the same round is nothing new.
func TestHearTwice(t *testing.T) {
	p := begun(t, four(), 0, 1, z(1, 5))
	p.answers(t, 1, x(1, 2, z(1, 1), 1), true)
	p.answers(t, 1, x(1, 2, z(1, 1), 1), false)
	p.answers(t, 2, x(1, 2, z(1, 1), 1), false)
	p.answers(t, 2, x(1, 2, z(1, 1), 1), false)
	p.leads(t, 1)
}

// TestHearBetterThanHeard: it is taken, be it better than the own one or not.
func TestHearBetterThanHeard(t *testing.T) {
	p := begun(t, four(), 1, 4, z(4, 4))
	p.answers(t, 0, x(0, 1, z(1, 1), 1), false)
	p.nobody(t)
	p.answers(t, 0, x(0, 2, z(1, 1), 1), false)
	p.nobody(t)
	p.answers(t, 0, x(1, 4, z(4, 4), 1), false) // as good as its own
	p.leads(t, 1)
	p.answers(t, 0, x(2, 4, z(4, 4), 1), true)
	p.leads(t, 2)
	p.answers(t, 0, x(0, 4, z(4, 5), 1), true)
	p.leads(t, 0)
	p.answers(t, 0, x(0, 4, z(5, 0), 1), true)
	p.leads(t, 0)
	p.answers(t, 0, x(0, 5, z(0, 0), 1), true)
	p.leads(t, 0)
}

// TestHearWorseThanHeard: the best stays, whatever of it is greater.
func TestHearWorseThanHeard(t *testing.T) {
	for _, worse := range []api.Vote{x(1, 4, z(4, 4), 1), x(0, 4, z(4, 4), 1), x(2, 4, z(4, 3), 1), x(2, 4, z(3, 9), 1), x(2, 3, z(9, 9), 1), x(0, 0, z(0, 0), 1)} {
		p := begun(t, four(), 1, 4, z(4, 4))
		p.answers(t, 0, x(2, 4, z(4, 4), 1), true)
		p.leads(t, 2)
		p.answers(t, 0, worse, false)
		p.leads(t, 2)
		p.votes(t, x(2, 4, z(4, 4), 1))
	}
}

// TestHearNothingAtAll: the least vote that there is, is one that was heard.
func TestHearNothingAtAll(t *testing.T) {
	p := begun(t, words{[]int{1, 1}, likes(2, 0)}, 0, 0, z(0, 0))
	p.nobody(t)
	p.answers(t, 1, x(0, 0, z(0, 0), 1), false)
	p.leads(t, 0)
	p.answers(t, 1, x(1, 0, z(0, 0), 1), true)
	p.leads(t, 1)
}

// TestHearOfEachServer: one's best is kept beside the other's.
func TestHearOfEachServer(t *testing.T) {
	w := words{likes(7, 1), likes(7, 3)}
	for me := range int8(7) {
		p := begun(t, w, me, 1, z(1, 1))
		best := x((me+3)%7, 2, z(2, 2), 1)
		for n := int8(1); n < 7; n++ {
			p.answers(t, (me+n)%7, best, n == 1)
			if n < 3 {
				p.nobody(t)
			} else {
				p.leads(t, best.For)
			}
		}
	}
}

// TestHearAllWays: three servers, every way of three steps among few votes and Begin.
func TestHearAllWays(t *testing.T) {
	var steps []heard
	for _, from := range []int8{0, 2} {
		for who := range int8(3) {
			for current := uint32(1); current <= 3; current++ {
				for round := int64(1); round <= 2; round++ {
					steps = append(steps, heard{from, x(who, current, z(1, 1), round)})
				}
			}
		}
	}
	steps = append(steps, heard{from: -1}) // Begin
	w := words{likes(3, 1), likes(3, 0)}
	s := made(t, w)
	do := func(p *pair, h heard) {
		if h.from < 0 {
			p.begins(t)
		} else {
			p.hears(t, h.from, h.x)
		}
	}
	for _, first := range steps {
		for _, second := range steps {
			for _, third := range steps {
				p := of(t, w, s, 1, 2, z(1, 1))
				p.begins(t)
				do(p, first)
				do(p, second)
				do(p, third)
			}
		}
		if t.Failed() {
			return
		}
	}
}
