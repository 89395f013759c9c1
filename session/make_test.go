package session_test

import (
	"math"
	"slices"
	"testing"

	"lagoon/api"
	"lagoon/session"
)

// noTimes are time-outs and spans that may not be.
var noTimes = []int32{0, -1, -1000, math.MinInt32, 1001, 1002, math.MaxInt32}

// noIds are numbers that no session has.
var noIds = []int64{0, -1, -7, math.MinInt64, math.MinInt32, -1 << 32}

// one is a session as the chapter says it: when it is due is reckoned anew each time.
type one struct {
	api.Session
	begun int
}

// told is what a Clock is to be: its sessions, in a list that is rising by Id.
type told struct {
	span, tick int
	all        []one
}

// dueOf goes up tick by tick to the first multiple.
func (m *told) dueOf(o one) int {
	due := o.begun + int(o.Timeout)
	for due%m.span != 0 {
		due++
	}
	return due
}

func (m *told) place(id int64) int {
	return slices.IndexFunc(m.all, func(o one) bool { return o.Id == id })
}

func (m *told) add(id int64, timeout int32) api.Errno {
	if id < 1 || timeout < 1 || timeout > 1000 {
		return api.ErrArg
	}
	n := m.place(id)
	if n < 0 && len(m.all) == 64 {
		return api.ErrLarge
	}
	if n < 0 {
		n = 0
		for n < len(m.all) && m.all[n].Id < id {
			n++
		}
		m.all = slices.Insert(slices.Clone(m.all), n, one{})
	}
	m.all[n] = one{api.Session{Id: id, Timeout: timeout}, m.tick}
	return api.OK
}

func (m *told) touch(id int64) api.Errno {
	n := m.place(id)
	if n < 0 {
		return api.ErrSession
	}
	m.all[n].begun = m.tick
	return api.OK
}

func (m *told) remove(id int64) bool {
	n := m.place(id)
	if n >= 0 {
		m.all = slices.Delete(slices.Clone(m.all), n, n+1)
	}
	return n >= 0
}

func (m *told) next() []int64 {
	m.tick++
	var over []int64
	var left []one
	for _, o := range m.all {
		if m.dueOf(o) == m.tick {
			over = append(over, o.Id)
		} else {
			left = append(left, o)
		}
	}
	m.all = left
	return over
}

func (m *told) sessions() []api.Session {
	var out []api.Session
	for _, o := range m.all {
		out = append(out, o.Session)
	}
	return out
}

// pair is a Clock, and what it is to be.
type pair struct {
	told
	c *session.Clock
}

func begun(t *testing.T, span int) *pair {
	t.Helper()
	c, e := session.New(span)
	if c == nil || e != api.OK {
		t.Fatalf("P19.1: New(%d) = %v, %d", span, c, e)
	}
	p := &pair{told: told{span: span}, c: c}
	p.looks(t, "New")
	return p
}

// at is a Clock that has come to this tick.
func at(t *testing.T, span, tick int) *pair {
	t.Helper()
	p := begun(t, span)
	for range tick {
		p.ticks(t)
	}
	return p
}

// looks holds what is told against what is to be there; twice, as nothing changes by it.
func (p *pair) looks(t *testing.T, behind string) {
	t.Helper()
	for range 2 {
		if got := p.c.Now(); got != p.tick {
			t.Errorf("P19.4: behind %s Now tells %d, not %d", behind, got, p.tick)
		}
		if got := p.c.All(); !slices.Equal(got, p.sessions()) {
			t.Errorf("P19.4: behind %s All tells %v, not %v", behind, got, p.sessions())
		}
		for _, o := range p.all {
			if n, is := p.c.Due(o.Id); n != p.dueOf(o) || !is {
				t.Errorf("P19.4: behind %s Due(%d) = %d, %v, not %d", behind, o.Id, n, is, p.dueOf(o))
			}
		}
	}
}

func (p *pair) adds(t *testing.T, id int64, timeout int32, want api.Errno) {
	t.Helper()
	if e := p.add(id, timeout); e != want {
		t.Fatalf("the model answers %d to Add(%d, %d), not %d", e, id, timeout, want)
	}
	if e := p.c.Add(id, timeout); e != want {
		t.Errorf("P19.2: Add(%d, %d) = %d, not %d", id, timeout, e, want)
	}
	p.looks(t, "an Add")
}

func (p *pair) touches(t *testing.T, id int64, want api.Errno) {
	t.Helper()
	if e := p.touch(id); e != want {
		t.Fatalf("the model answers %d to Touch(%d), not %d", e, id, want)
	}
	if e := p.c.Touch(id); e != want {
		t.Errorf("P19.2: Touch(%d) = %d, not %d", id, e, want)
	}
	p.looks(t, "a Touch")
}

func (p *pair) removes(t *testing.T, id int64, want bool) {
	t.Helper()
	if is := p.remove(id); is != want {
		t.Fatalf("the model answers %v to Remove(%d)", is, id)
	}
	if is := p.c.Remove(id); is != want {
		t.Errorf("P19.2: Remove(%d) = %v", id, is)
	}
	p.lacks(t, id)
	p.looks(t, "a Remove")
}

// ticks tells what was told, too.
func (p *pair) ticks(t *testing.T) []int64 {
	t.Helper()
	want := p.next()
	if got := p.c.Tick(); !slices.Equal(got, want) {
		t.Errorf("P19.3: Tick to %d tells %v, not %v", p.tick, got, want)
	}
	for _, id := range want {
		p.lacks(t, id)
	}
	p.looks(t, "a Tick")
	return want
}

// lacks holds that none of this number is there.
func (p *pair) lacks(t *testing.T, id int64) {
	t.Helper()
	if n, is := p.c.Due(id); n != 0 || is {
		t.Errorf("P19.4: Due(%d) = %d, %v: it is not there", id, n, is)
	}
	if slices.ContainsFunc(p.c.All(), func(s api.Session) bool { return s.Id == id }) {
		t.Errorf("P19.4: All has %d: it is not there", id)
	}
}

// full is a Clock with as many sessions as there may be: 2, 4, 6 and so on, added falling and rising by turns, with time-outs 1 to 8.
func full(t *testing.T, span int) *pair {
	t.Helper()
	p := begun(t, span)
	for i := range int64(api.MaxSessions / 2) {
		p.adds(t, 2*(i+1), int32(1+i%4), api.OK)
		p.adds(t, 2*(api.MaxSessions-i), int32(5+i%4), api.OK)
	}
	return p
}
