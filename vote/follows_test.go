package vote_test

import (
	"math"
	"math/rand/v2"
	"slices"
	"testing"

	"lagoon/api"
	"lagoon/vote"
)

// some gives systems, histories and votes by chance.
type some struct{ *rand.Rand }

func chance(n uint64) some { return some{rand.New(rand.NewPCG(21, n))} }

func (s some) words() words {
	for {
		size, heavy, groups := 1+s.IntN(7), []int{2, 4, 101}[s.IntN(3)], 1+s.IntN(3)
		var w words
		for range size {
			w.weights = append(w.weights, s.IntN(heavy))
			w.groups = append(w.groups, 6-s.IntN(groups))
		}
		if len(w.voters(255)) > 0 {
			return w
		}
	}
}

// number: few enough that they meet; and now and then one at a bound.
func (s some) number() uint32 {
	if s.IntN(30) == 0 {
		return ends[s.IntN(len(ends))]
	}
	return uint32(s.IntN(3))
}

func (s some) history(n int) history {
	h := even(n)
	for i := range n {
		h.current[i], h.last[i] = s.number(), z(s.number(), s.number())
	}
	return h
}

func (s some) server() int8 {
	if s.IntN(20) == 0 {
		return noServers[s.IntN(len(noServers))]
	}
	return int8(s.IntN(7))
}

// vote: near a round, seldom far from it.
func (s some) vote(round int64) api.Vote {
	switch s.IntN(40) {
	case 0:
		round = math.MinInt64
	case 1:
		round = s.Int64()
	case 2, 3, 4, 5:
		round--
	case 6, 7:
		round += min(2, math.MaxInt64-round)
	}
	return x(s.server(), s.number(), z(s.number(), s.number()), round)
}

// TestByChance holds Voters against the words over long ways, what is refused among them.
func TestByChance(t *testing.T) {
	s := chance(1)
	leads := 0
	for range 2000 {
		w := s.words()
		all := w.voters(255)
		me := all[s.IntN(len(all))]
		p := voter(t, w, me, s.number(), z(s.number(), s.number()))
		for range 60 {
			if s.IntN(12) == 0 {
				p.begins(t)
			} else {
				p.hears(t, s.server(), s.vote(p.round))
			}
			if _, is := p.v.Leader(); is {
				leads++
			}
		}
		if t.Failed() {
			return
		}
	}
	if leads == 0 {
		t.Error("nobody led")
	}
}

// message is a vote under way.
type message struct {
	from, to int8
	x        api.Vote
}

// crowd are servers that tell one another their votes.
type crowd struct {
	some
	voters   []int8
	by       map[int8]*vote.Voter
	began    map[int8]bool
	greatest int64 // the greatest round that one of them began
	way      []message
}

func (s some) crowd(t *testing.T, w words, voters []int8, h history) *crowd {
	t.Helper()
	c := &crowd{some: s, voters: voters, by: map[int8]*vote.Voter{}, began: map[int8]bool{}}
	system := made(t, w)
	for _, n := range voters {
		v, e := vote.New(system, n, h.current[n], h.last[n])
		if e != api.OK {
			t.Fatalf("P21.2: New(%v, %d) = %d", w, n, e)
		}
		c.by[n] = v
	}
	return c
}

func (c *crowd) tell(from int8, x api.Vote) {
	for _, to := range c.voters {
		if to != from {
			c.way = append(c.way, message{from, to, x})
		}
	}
}

func (c *crowd) begin(t *testing.T, n int8) {
	t.Helper()
	own, e := c.by[n].Begin()
	if e != api.OK {
		t.Fatalf("P21.3: Begin = %d", e)
	}
	c.began[n], c.greatest = true, max(c.greatest, own.Round)
	c.tell(n, own)
}

// deliver takes any one that is under way, seldom so that it comes once more. Ahead of the first Begin it is refused, and stays.
func (c *crowd) deliver(t *testing.T) {
	t.Helper()
	i := c.IntN(len(c.way))
	m := c.way[i]
	other, e := c.by[m.to].Hear(m.from, m.x)
	if !c.began[m.to] {
		if other || e != api.ErrServer {
			t.Errorf("P21.4: Hear ahead of the first Begin = %v, %d", other, e)
		}
		return
	}
	if e != api.OK {
		t.Errorf("P21.4: Hear(%d, %v) = %d", m.from, m.x, e)
	}
	if c.IntN(4) > 0 {
		c.way = slices.Delete(c.way, i, i+1)
	}
	if other {
		c.tell(m.to, c.by[m.to].Vote())
	}
}

// run lets each one begin once to most times, and all be heard.
func (c *crowd) run(t *testing.T, most int) {
	t.Helper()
	var begins []int8
	for _, n := range c.voters {
		for range 1 + c.IntN(most) {
			begins = append(begins, n)
		}
	}
	c.Shuffle(len(begins), func(i, j int) { begins[i], begins[j] = begins[j], begins[i] })
	for len(begins) > 0 || len(c.way) > 0 {
		if len(begins) > 0 && (len(c.way) == 0 || c.IntN(6) == 0) {
			c.begin(t, begins[0])
			begins = begins[1:]
		} else {
			c.deliver(t)
		}
	}
}

// ends holds that all are in the greatest round, and for the best of them.
func (c *crowd) ends(t *testing.T, w words, best int8, h history) {
	t.Helper()
	want := x(best, h.current[best], h.last[best], c.greatest)
	for _, n := range c.voters {
		if got := c.by[n].Vote(); got != want {
			t.Errorf("P21.5: %v: %d of %v votes at the end %v, not %v", w, n, c.voters, got, want)
		}
		if got, is := c.by[n].Leader(); got != best || !is {
			t.Errorf("P21.5: %v: %d of %v is led at the end by %d, %v, not by %d", w, n, c.voters, got, is, best)
		}
	}
}

// quorum is a set of servers of which those that count are one, and the best of these.
func (s some) quorum(w words, h history) (uint8, int8) {
	for {
		set := uint8(s.Uint32())
		if best, is := h.best(w, set); is {
			return set, best
		}
	}
}

// TestBestOfAll: whatever the order, however often each of them begins, however often each vote is heard.
func TestBestOfAll(t *testing.T) {
	s := chance(2)
	for range 1500 {
		w := s.words()
		h := s.history(len(w.weights))
		set, best := s.quorum(w, h)
		c := s.crowd(t, w, w.voters(set), h)
		c.run(t, 1+s.IntN(4))
		c.ends(t, w, best, h)
		if t.Failed() {
			return
		}
	}
}

// TestElectIsAsVotersHear: it comes to the same as Voters that begin once and hear each other in any order.
func TestElectIsAsVotersHear(t *testing.T) {
	s := chance(3)
	for range 1500 {
		w := s.words()
		h := s.history(len(w.weights))
		set, best := s.quorum(w, h)
		c := s.crowd(t, w, w.voters(set), h)
		c.run(t, 1)
		c.ends(t, w, best, h)
		got, is := vote.Elect(made(t, w), set, h.current, h.last)
		if want, _ := c.by[c.voters[0]].Leader(); got != want || !is {
			t.Errorf("P21.6: %v: Elect(%08b, %v, %v) = %d, %v; the Voters: %d", w, set, h.current, h.last, got, is, want)
		}
		if t.Failed() {
			return
		}
	}
}

// TestElectByChance: of any set.
func TestElectByChance(t *testing.T) {
	s := chance(4)
	for range 10000 {
		w := s.words()
		h := s.history(len(w.weights))
		h.elects(t, w, made(t, w), uint8(s.Uint32()))
		if t.Failed() {
			return
		}
	}
}

// TestOthersThatCountSayNothing: who of them is not in voters may have what it will.
func TestOthersThatCountSayNothing(t *testing.T) {
	s := chance(5)
	for range 1500 {
		w := s.words()
		h := s.history(len(w.weights))
		set, best := s.quorum(w, h)
		system := made(t, w)
		for n := range len(w.weights) {
			if set>>n&1 == 0 || w.weights[n] == 0 {
				h.current[n], h.last[n] = s.Uint32(), z(s.Uint32(), s.Uint32())
			}
		}
		if got, is := vote.Elect(system, set, h.current, h.last); got != best || !is {
			t.Errorf("P21.6: %v: Elect(%08b, %v, %v) = %d, %v, not %d", w, set, h.current, h.last, got, is, best)
		}
	}
}
