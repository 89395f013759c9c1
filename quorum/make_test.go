package quorum_test

import (
	"math"
	"slices"
	"testing"

	"lagoon/api"
	"lagoon/quorum"
)

// noServers are numbers that no server has, whatever the system.
var noServers = []int8{-1, -2, -7, -8, math.MinInt8, 7, 8, 9, 15, 64, math.MaxInt8}

func z(epoch, n uint32) api.Zxid { return api.Zxid{Epoch: epoch, N: n} }

// words is a system as the chapter says it: each question is reckoned anew out of the lists.
type words struct{ weights, groups []int }

// isIn tells whether a set has a server of this number.
func (w words) isIn(set uint8, n int) bool {
	for range n {
		set /= 2
	}
	return n < len(w.weights) && set%2 == 1
}

// weightOf is the weight that a set has in a group.
func (w words) weightOf(set uint8, group int) int {
	sum := 0
	for n, weight := range w.weights {
		if w.groups[n] == group && w.isIn(set, n) {
			sum += weight
		}
	}
	return sum
}

// countGroups are the groups that count.
func (w words) countGroups() []int {
	var out []int
	for group := range 7 {
		if w.weightOf(255, group) > 0 {
			out = append(out, group)
		}
	}
	return out
}

// held are the groups that a set holds.
func (w words) held(set uint8) []int {
	var out []int
	for _, group := range w.countGroups() {
		if float64(w.weightOf(set, group)) > float64(w.weightOf(255, group))/2 {
			out = append(out, group)
		}
	}
	return out
}

func (w words) isQuorum(set uint8) bool {
	return float64(len(w.held(set))) > float64(len(w.countGroups()))/2
}

func (w words) isLeast(set uint8) bool {
	set &= w.all()
	if !w.isQuorum(set) {
		return false
	}
	for part := range set {
		if part&^set == 0 && w.isQuorum(part) {
			return false
		}
	}
	return true
}

// all is the set of all servers.
func (w words) all() uint8 { return uint8(1<<len(w.weights) - 1) }

// counts is the set of those that count.
func (w words) counts() uint8 {
	var set uint8
	for n, weight := range w.weights {
		if weight > 0 {
			set |= 1 << n
		}
	}
	return set
}

func made(t *testing.T, w words) *quorum.System {
	t.Helper()
	s, e := quorum.New(w.weights, w.groups)
	if s == nil || e != api.OK {
		t.Fatalf("P20.1: New(%v, %v) = %v, %d", w.weights, w.groups, s, e)
	}
	return s
}

// looks holds what a System tells against the words, of every set and every number; an Acks has the same calls.
func looks(t *testing.T, w words, s interface {
	Size() int
	Counts(server int8) bool
	Has(servers uint8) bool
	Least(servers uint8) bool
}) {
	t.Helper()
	if n := s.Size(); n != len(w.weights) {
		t.Errorf("P20.2: %v: Size = %d", w, n)
	}
	for n := range 256 {
		server := int8(n - 128)
		want := server >= 0 && int(server) < len(w.weights) && w.weights[server] > 0
		if got := s.Counts(server); got != want {
			t.Errorf("P20.2: %v: Counts(%d) = %v", w, server, got)
		}
		set := uint8(n)
		if got := s.Has(set); got != w.isQuorum(set) {
			t.Errorf("P20.2: %v: Has(%08b) = %v", w, set, got)
		}
		if got := s.Least(set); got != w.isLeast(set) {
			t.Errorf("P20.2: %v: Least(%08b) = %v", w, set, got)
		}
	}
}

// pair is an Acks, and what was put into it.
type pair struct {
	words
	put [][]uint64 // by server, each zxid as one number
	s   *quorum.System
	a   *quorum.Acks
}

// number is a zxid as one, in the same order.
func number(z api.Zxid) uint64 { return uint64(z.Epoch)*(1<<32) + uint64(z.N) }

func zxid(n uint64) api.Zxid { return api.Zxid{Epoch: uint32(n >> 32), N: uint32(n)} }

func begun(t *testing.T, w words) *pair {
	t.Helper()
	return of(t, w, made(t, w))
}

// of is an Acks of a System that is there.
func of(t *testing.T, w words, s *quorum.System) *pair {
	t.Helper()
	a, e := quorum.NewAcks(s)
	if a == nil || e != api.OK || a.System != s {
		t.Fatalf("P20.3: NewAcks = %v, %d", a, e)
	}
	p := &pair{words: w, put: make([][]uint64, len(w.weights)), s: s, a: a}
	p.looks(t, "NewAcks")
	return p
}

// committed goes through the zxids that were acknowledged last, falling, till a quorum is there.
func (p *pair) committed() (api.Zxid, bool) {
	var all []uint64
	for _, l := range p.put {
		if len(l) > 0 {
			all = append(all, slices.Max(l))
		}
	}
	slices.Sort(all)
	slices.Reverse(all)
	for _, n := range all {
		if p.isQuorum(p.reach(n)) {
			return zxid(n), true
		}
	}
	return api.Zxid{}, false
}

// reach is the set of the servers that have acknowledged up to this one or above it.
func (p *pair) reach(z uint64) uint8 {
	var set uint8
	for n, l := range p.put {
		if slices.ContainsFunc(l, func(x uint64) bool { return x >= z }) {
			set |= 1 << n
		}
	}
	return set
}

// looks holds what is told against what was put; twice, as nothing changes by it.
func (p *pair) looks(t *testing.T, behind string) {
	t.Helper()
	for range 2 {
		for n := range 256 {
			server := int8(n - 128)
			want, is := api.Zxid{}, false
			if server >= 0 && int(server) < len(p.put) && len(p.put[server]) > 0 {
				want, is = zxid(slices.Max(p.put[server])), true
			}
			if got, ok := p.a.Of(server); got != want || ok != is {
				t.Errorf("P20.3: %v: behind %s Of(%d) = %v, %v, not %v, %v", p.words, behind, server, got, ok, want, is)
			}
		}
		want, is := p.committed()
		if got, ok := p.a.Committed(); got != want || ok != is {
			t.Errorf("P20.4: %v: behind %s Committed = %v, %v, not %v, %v; put: %v", p.words, behind, got, ok, want, is, p.put)
		}
		if p.a.System != p.s {
			t.Errorf("P20.3: behind %s the System is another one", behind)
		}
	}
}

// puts holds that what is put changes that server alone.
func (p *pair) puts(t *testing.T, server int8, x api.Zxid) {
	t.Helper()
	want := api.ErrArg
	if server >= 0 && int(server) < len(p.put) {
		want = api.OK
		p.put[server] = append(p.put[server], number(x))
	}
	if e := p.a.Put(server, x); e != want {
		t.Errorf("P20.3: %v: Put(%d, %v) = %d, not %d", p.words, server, x, e, want)
	}
	p.looks(t, "a Put")
}

// commits holds the model itself to what a test says.
func (p *pair) commits(t *testing.T, want api.Zxid, is bool) {
	t.Helper()
	if got, ok := p.committed(); got != want || ok != is {
		t.Fatalf("the model has committed %v, %v, not %v, %v", got, ok, want, is)
	}
	if got, ok := p.a.Committed(); got != want || ok != is {
		t.Errorf("P20.4: %v: Committed = %v, %v, not %v, %v", p.words, got, ok, want, is)
	}
}

// likes gives n times the same number.
func likes(n, what int) []int { return slices.Repeat([]int{what}, n) }

// several are systems of each size and of one and of several groups, with servers that do not count and groups that do not.
func several() []words {
	out := []words{
		{[]int{1, 1, 1}, likes(3, 0)},
		{[]int{1, 1, 0}, likes(3, 0)},
		{[]int{3, 1, 1}, likes(3, 0)},
		{[]int{2, 1, 1}, likes(3, 0)},
		{[]int{100}, []int{6}},
		{likes(7, 100), likes(7, 6)},
		{likes(7, 1), []int{0, 1, 2, 3, 4, 5, 6}},
		{likes(6, 1), []int{0, 0, 2, 2, 5, 5}},
		{[]int{1, 1, 1, 1, 0, 0}, []int{0, 0, 2, 2, 5, 5}},
		{[]int{0, 0, 0, 0, 0, 0, 1}, []int{6, 5, 4, 3, 2, 1, 0}},
		{[]int{1, 0, 0, 0, 0, 0, 0}, []int{6, 5, 4, 3, 2, 1, 0}},
		{[]int{100, 99, 1, 50, 50, 0, 7}, []int{1, 1, 1, 3, 3, 3, 6}},
		{[]int{100, 99, 1, 50, 50, 0, 7}, []int{6, 1, 6, 1, 1, 3, 3}},
		{[]int{1, 2, 4, 8, 16, 32, 64}, likes(7, 3)},
		{[]int{1, 2, 4, 7, 14, 28, 56}, likes(7, 3)},
	}
	for n := 1; n <= 7; n++ {
		out = append(out, words{likes(n, 1), likes(n, n-1)}, words{likes(n, n), likes(n, 0)})
	}
	return out
}
