package session_test

import (
	"math"
	"testing"

	"lagoon/api"
	"lagoon/session"
)

func TestNewOfEachSpan(t *testing.T) {
	for span := -1001; span <= 2002; span++ {
		c, e := session.New(span)
		is := span >= 1 && span <= 1000
		if (c != nil) != is || (e == api.OK) != is || !is && e != api.ErrArg {
			t.Errorf("P19.1: New(%d) = %v, %d", span, c, e)
		}
		if is && (c.Now() != 0 || len(c.All()) != 0) {
			t.Errorf("P19.1: New(%d) is at %d, and has %v", span, c.Now(), c.All())
		}
	}
	for _, span := range []int{math.MinInt, math.MinInt32, math.MaxInt32, math.MaxInt, 1 << 32, 1<<32 + 1, 1 << 8 * 1000} {
		if c, e := session.New(span); c != nil || e != api.ErrArg {
			t.Errorf("P19.1: New(%d) = %v, %d", span, c, e)
		}
	}
}

// TestNewHasNone: no number is that of a session.
func TestNewHasNone(t *testing.T) {
	for _, span := range []int{1, 2, 1000} {
		p := begun(t, span)
		for _, id := range append([]int64{1, 2, math.MaxInt64}, noIds...) {
			p.lacks(t, id)
			p.touches(t, id, api.ErrSession)
			p.removes(t, id, false)
		}
		for range 2 * span {
			p.ticks(t)
		}
	}
}

// TestNone: a nil Clock, and one that New did not make, do nothing and tell nothing.
func TestNone(t *testing.T) {
	var plain session.Clock
	for _, c := range []*session.Clock{nil, &plain, new(session.Clock)} {
		for range 2 {
			for _, id := range []int64{1, 0, -1, math.MaxInt64} {
				for _, timeout := range []int32{1, 1000, 0, -1, 1001} {
					answers(t, "R3: Add", c.Add(id, timeout), api.ErrArg)
				}
				answers(t, "R3: Touch", c.Touch(id), api.ErrArg)
				if c.Remove(id) {
					t.Errorf("P19.4: Remove(%d) of no Clock: true", id)
				}
				due(t, c, id, 0)
			}
			if l := c.Tick(); len(l) != 0 {
				t.Errorf("P19.4: Tick of no Clock tells %v", l)
			}
			if n, l := c.Now(), c.All(); n != 0 || len(l) != 0 {
				t.Errorf("P19.4: no Clock is at %d, and has %v", n, l)
			}
		}
	}
}
