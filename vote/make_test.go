package vote_test

import (
	"math"
	"slices"
	"testing"

	"lagoon/api"
	"lagoon/quorum"
	"lagoon/vote"
)

// noServers are numbers that no server has, whatever the system.
var noServers = []int8{-1, -2, -7, -8, math.MinInt8, 7, 8, 9, 15, 64, math.MaxInt8}

// ends are numbers at the bounds of a uint32 and of its parts.
var ends = []uint32{0, 1, 2, 255, 256, math.MaxInt32, 1 << 31, math.MaxUint32 - 1, math.MaxUint32}

func z(epoch, n uint32) api.Zxid { return api.Zxid{Epoch: epoch, N: n} }

func x(who int8, current uint32, last api.Zxid, round int64) api.Vote {
	return api.Vote{For: who, Current: current, Last: last, Round: round}
}

// key is what votes are ordered by, the first thing first.
func key(x api.Vote) []int64 {
	return []int64{int64(x.Current), int64(x.Last.Epoch), int64(x.Last.N), int64(x.For)}
}

func order(a, b api.Vote) int { return slices.Compare(key(a), key(b)) }

// words is a system as the chapter says it.
type words struct{ weights, groups []int }

func (w words) counts(n int8) bool {
	return n >= 0 && int(n) < len(w.weights) && w.weights[n] > 0
}

// isQuorum reckons by the chapter 20's words.
func (w words) isQuorum(servers []int8) bool {
	whole, part := map[int]int{}, map[int]int{}
	for n, weight := range w.weights {
		whole[w.groups[n]] += weight
		if slices.Contains(servers, int8(n)) {
			part[w.groups[n]] += weight
		}
	}
	count, held := 0, 0
	for group := range whole {
		if whole[group] > 0 {
			count++
			if 2*part[group] > whole[group] {
				held++
			}
		}
	}
	return 2*held > count
}

// voters are the servers of a set that count.
func (w words) voters(set uint8) []int8 {
	var out []int8
	for n := range int8(7) {
		if set>>n&1 == 1 && w.counts(n) {
			out = append(out, n)
		}
	}
	return out
}

func made(t *testing.T, w words) *quorum.System {
	t.Helper()
	s, e := quorum.New(w.weights, w.groups)
	if s == nil || e != api.OK {
		t.Fatalf("quorum.New(%v, %v) = %v, %d", w.weights, w.groups, s, e)
	}
	return s
}

// likes gives n times the same number.
func likes(n, what int) []int { return slices.Repeat([]int{what}, n) }

// four are three servers of weight 1, and one of weight 0.
func four() words { return words{[]int{1, 1, 1, 0}, likes(4, 0)} }

func several() []words {
	out := []words{
		four(),
		{[]int{0, 1, 1, 1}, likes(4, 6)},
		{[]int{3, 1, 1}, likes(3, 0)},
		{[]int{1, 1}, likes(2, 0)},
		{[]int{0, 0, 0, 0, 0, 0, 1}, []int{6, 5, 4, 3, 2, 1, 0}},
		{[]int{1, 1, 1, 1, 1, 1}, []int{0, 0, 2, 2, 5, 5}},
		{[]int{1, 1, 1, 1, 0, 0}, []int{0, 0, 2, 2, 5, 5}},
		{[]int{100, 99, 1, 50, 50, 0, 7}, []int{1, 1, 1, 3, 3, 3, 6}},
		{[]int{2, 1, 1, 0, 5, 5, 5}, []int{1, 1, 1, 3, 3, 3, 6}},
	}
	for n := 1; n <= 7; n++ {
		out = append(out, words{likes(n, 1), likes(n, n-1)})
	}
	return out
}

// heard is a vote that was taken, and from whom.
type heard struct {
	from int8
	x    api.Vote
}

// pair is a Voter and what the chapter says of it: all that it has heard in its round is kept, and each question is reckoned anew out of that.
type pair struct {
	words
	first api.Vote
	round int64
	took  []heard
	s     *quorum.System
	v     *vote.Voter
}

func voter(t *testing.T, w words, me int8, current uint32, last api.Zxid) *pair {
	t.Helper()
	return of(t, w, made(t, w), me, current, last)
}

// of is a Voter of a System that is there.
func of(t *testing.T, w words, s *quorum.System, me int8, current uint32, last api.Zxid) *pair {
	t.Helper()
	v, e := vote.New(s, me, current, last)
	if v == nil || e != api.OK {
		t.Fatalf("P21.2: New(%v, %d, %d, %v) = %v, %d", w, me, current, last, v, e)
	}
	p := &pair{words: w, first: x(me, current, last, 0), s: s, v: v}
	p.looks(t, "New")
	return p
}

// begun is one in its first round.
func begun(t *testing.T, w words, me int8, current uint32, last api.Zxid) *pair {
	t.Helper()
	p := voter(t, w, me, current, last)
	p.begins(t)
	return p
}

// own is the best of the vote for itself and all that was heard, of its round.
func (p *pair) own() api.Vote {
	all := []api.Vote{p.first}
	for _, h := range p.took {
		all = append(all, h.x)
	}
	best := slices.MaxFunc(all, order)
	best.Round = p.round
	return best
}

func (p *pair) leader() (int8, bool) {
	if p.round < 1 {
		return 0, false
	}
	own := p.own()
	same := []int8{p.first.For}
	for n := range int8(7) {
		var all []api.Vote
		for _, h := range p.took {
			if h.from == n {
				all = append(all, h.x)
			}
		}
		if len(all) > 0 && order(slices.MaxFunc(all, order), own) == 0 {
			same = append(same, n)
		}
	}
	if !p.isQuorum(same) {
		return 0, false
	}
	return own.For, true
}

// hear is P21.4, word by word.
func (p *pair) hear(from int8, x api.Vote) (bool, api.Errno) {
	if !p.counts(from) || from == p.first.For || !p.counts(x.For) || x.Round < 1 {
		return false, api.ErrArg
	}
	if p.round == 0 {
		return false, api.ErrServer
	}
	if x.Round < p.round {
		return false, api.OK
	}
	if x.Round > p.round {
		p.round, p.took = x.Round, []heard{{from, x}}
		return true, api.OK
	}
	was := p.own()
	p.took = append(p.took, heard{from, x})
	return p.own() != was, api.OK
}

// looks holds what is told against the words; twice, as nothing changes by it.
func (p *pair) looks(t *testing.T, behind string) {
	t.Helper()
	want, is := p.leader()
	for range 2 {
		if got := p.v.Vote(); got != p.own() {
			t.Errorf("P21.5: %v: behind %s Vote = %v, not %v", p.words, behind, got, p.own())
		}
		if got, ok := p.v.Leader(); got != want || ok != is {
			t.Errorf("P21.5: %v: behind %s Leader = %d, %v, not %d, %v; its vote: %v; heard: %v", p.words, behind, got, ok, want, is, p.own(), p.took)
		}
	}
	if p.v.System != p.s {
		t.Errorf("P21.2: behind %s its System is another one", behind)
	}
}

func (p *pair) begins(t *testing.T) {
	t.Helper()
	want, fault := api.Vote{}, api.ErrSpent
	if p.round < math.MaxInt64 {
		p.round, p.took = p.round+1, nil
		want, fault = p.own(), api.OK
	}
	if got, e := p.v.Begin(); got != want || e != fault {
		t.Errorf("P21.3: %v: Begin = %v, %d, not %v, %d", p.words, got, e, want, fault)
	}
	p.looks(t, "Begin")
}

func (p *pair) hears(t *testing.T, from int8, x api.Vote) bool {
	t.Helper()
	was := p.round
	want, fault := p.hear(from, x)
	got, e := p.v.Hear(from, x)
	if got != want || e != fault {
		t.Errorf("P21.4: %v, voter %d in round %d: Hear(%d, %v) = %v, %d, not %v, %d", p.words, p.first.For, was, from, x, got, e, want, fault)
	}
	p.looks(t, "Hear")
	return got
}

// answers holds the model itself, too, to what a test says that Hear answers.
func (p *pair) answers(t *testing.T, from int8, x api.Vote, other bool) {
	t.Helper()
	if got := p.hears(t, from, x); got != other {
		t.Errorf("P21.4: Hear(%d, %v) = %v", from, x, got)
	}
}

// refuses does so of an error.
func (p *pair) refuses(t *testing.T, from int8, x api.Vote, want api.Errno) {
	t.Helper()
	if got, e := p.v.Hear(from, x); got || e != want {
		t.Errorf("P21.4: Hear(%d, %v) = %v, %d, not %d", from, x, got, e, want)
	}
	p.hears(t, from, x)
}

func (p *pair) votes(t *testing.T, want api.Vote) {
	t.Helper()
	if got := p.v.Vote(); got != want {
		t.Errorf("P21.5: Vote = %v, not %v", got, want)
	}
}

func (p *pair) leads(t *testing.T, want int8) {
	t.Helper()
	if got, is := p.v.Leader(); got != want || !is {
		t.Errorf("P21.5: Leader = %d, %v, not %d", got, is, want)
	}
}

func (p *pair) nobody(t *testing.T) {
	t.Helper()
	if got, is := p.v.Leader(); got != 0 || is {
		t.Errorf("P21.5: Leader = %d, %v: there is none", got, is)
	}
}
