package session_test

import (
	"math/rand/v2"
	"slices"
	"testing"

	"lagoon/api"
)

// some gives numbers and time-outs by chance, few enough that they meet; and now and then ones that may not be.
type some struct{ *rand.Rand }

func (s some) id() int64 {
	if s.IntN(20) == 0 {
		return noIds[s.IntN(len(noIds))]
	}
	return int64(1 + s.IntN(80))
}

func (s some) timeout() int32 {
	switch s.IntN(20) {
	case 0:
		return noTimes[s.IntN(len(noTimes))]
	case 1:
		return int32(1000 - s.IntN(3))
	}
	return int32(1 + s.IntN(30))
}

func (s some) span() int {
	if s.IntN(8) == 0 {
		return 1000 - s.IntN(3)
	}
	return 1 + s.IntN(12)
}

// does lets one thing by chance happen to a Clock, and tells what a Tick told.
func (s some) does(t *testing.T, p *pair) []int64 {
	t.Helper()
	id, timeout := s.id(), s.timeout()
	switch n := s.IntN(10); {
	case n < 5:
		m := told{span: p.span, tick: p.tick, all: slices.Clone(p.all)}
		p.adds(t, id, timeout, m.add(id, timeout))
	case n < 6:
		m := told{span: p.span, tick: p.tick, all: slices.Clone(p.all)}
		p.touches(t, id, m.touch(id))
	case n < 7:
		p.removes(t, id, p.place(id) >= 0)
	default:
		return p.ticks(t)
	}
	return nil
}

// TestByChance holds a Clock against the chapter's words over long ways, on some of which it is full.
func TestByChance(t *testing.T) {
	s := some{rand.New(rand.NewPCG(19, 1))}
	full, over := 0, 0
	for range 40 {
		p := begun(t, s.span())
		for range 600 {
			over += len(s.does(t, p))
			if len(p.all) == api.MaxSessions {
				full++
			}
		}
		if t.Failed() {
			return
		}
	}
	if full == 0 || over == 0 {
		t.Errorf("full %d times, told %d", full, over)
	}
}

// TestTwoClocks: what is done to one is not seen by the other, whatever span each has.
func TestTwoClocks(t *testing.T) {
	s := some{rand.New(rand.NewPCG(19, 2))}
	for range 20 {
		a, b := begun(t, s.span()), begun(t, s.span())
		for range 200 {
			s.does(t, a)
			b.looks(t, "what was done to another Clock")
			s.does(t, b)
			a.looks(t, "what was done to another Clock")
		}
		if t.Failed() {
			return
		}
	}
}

// TestAtLeastItsTimeout: one that is left alone is told at least Timeout, and less than Timeout + span Ticks later, whenever its time began.
func TestAtLeastItsTimeout(t *testing.T) {
	s := some{rand.New(rand.NewPCG(19, 3))}
	for range 400 {
		span, timeout := 1+s.IntN(40), int32(1+s.IntN(40))
		c := clock(t, span)
		for range s.IntN(100) {
			c.Tick()
		}
		c.Add(5, timeout)
		if s.IntN(2) == 0 { // begun anew
			for range s.IntN(int(timeout)) {
				c.Tick()
			}
			c.Touch(5)
		}
		later := 0
		for told := false; !told && later < 200; later++ {
			told = slices.Equal(c.Tick(), []int64{5})
		}
		if later < int(timeout) || later >= int(timeout)+span || c.Now()%span != 0 {
			t.Errorf("P19.3: the span is %d, the time-out %d: told %d Ticks later, at %d", span, timeout, later, c.Now())
		}
	}
}

// TestTouchedInTime: who is touched within each Timeout Ticks is never told, be it by the last of them; left alone then it is told once.
func TestTouchedInTime(t *testing.T) {
	s := some{rand.New(rand.NewPCG(19, 4))}
	for range 100 {
		span, timeout := 1+s.IntN(12), int32(1+s.IntN(12))
		c := clock(t, span)
		c.Add(5, timeout)
		for range 30 {
			wait := int(timeout) - 1
			if s.IntN(2) == 0 {
				wait = s.IntN(int(timeout))
			}
			for range wait {
				if l := c.Tick(); len(l) != 0 {
					t.Fatalf("P19.3: the span is %d, the time-out %d: told %v at %d, though touched in time", span, timeout, l, c.Now())
				}
			}
			if e := c.Touch(5); e != api.OK {
				t.Fatalf("P19.2: Touch = %d, at %d", e, c.Now())
			}
		}
		times := 0
		for range 100 {
			times += len(c.Tick())
			if times > 0 {
				answers(t, "Touch of one that was told", c.Touch(5), api.ErrSession)
			}
		}
		if times != 1 {
			t.Errorf("P19.3: left alone it is told %d times", times)
		}
	}
}

// TestToldOnceForEachAdd: over a long way none is told that was not added since it was told last, nor one that was removed.
func TestToldOnceForEachAdd(t *testing.T) {
	s := some{rand.New(rand.NewPCG(19, 5))}
	for range 40 {
		c := clock(t, s.span())
		lives := map[int64]int{}
		for range 400 {
			id := s.id()
			switch s.IntN(4) {
			case 0:
				if c.Add(id, s.timeout()) == api.OK {
					lives[id] = 1
				}
			case 1:
				if is := c.Remove(id); is != (lives[id] == 1) {
					t.Fatalf("P19.2: Remove(%d) = %v", id, is)
				}
				lives[id] = 0
			case 2:
				if e := c.Touch(id); (e == api.OK) != (lives[id] == 1) {
					t.Fatalf("P19.2: Touch(%d) = %d", id, e)
				}
			default:
				for _, id := range c.Tick() {
					if lives[id] != 1 {
						t.Fatalf("P19.3: %d is told without an Add", id)
					}
					lives[id] = 0
				}
			}
		}
	}
}
