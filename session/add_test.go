package session_test

import (
	"math"
	"testing"

	"lagoon/api"
)

// TestAddOfEachTimeout: around each bound, at several ticks and spans.
func TestAddOfEachTimeout(t *testing.T) {
	for _, span := range []int{1, 2, 3, 7, 999, 1000} {
		for _, tick := range []int{0, 1, 2, 6, 7, 8} {
			p := at(t, span, tick)
			for _, timeout := range []int32{1, 2, 3, 5, 6, 7, 8, 499, 500, 501, 992, 993, 998, 999, 1000} {
				p.adds(t, 7, timeout, api.OK)
			}
			for _, timeout := range noTimes {
				p.adds(t, 7, timeout, api.ErrArg)
				p.adds(t, 8, timeout, api.ErrArg)
			}
		}
	}
}

func TestAddOfEachId(t *testing.T) {
	p := begun(t, 5)
	for _, id := range []int64{1, 2, math.MaxInt32, 1 << 32, 1<<32 + 1, math.MaxInt64, math.MaxInt64 - 1} {
		p.adds(t, id, 3, api.OK)
	}
	for _, id := range noIds {
		p.adds(t, id, 3, api.ErrArg)
		p.lacks(t, id)
	}
}

// TestAddAgain: the time begins now, with the new time-out, be it longer or shorter; there is one of it.
func TestAddAgain(t *testing.T) {
	p := begun(t, 4)
	p.adds(t, 7, 9, api.OK)
	p.adds(t, 3, 9, api.OK)
	for _, timeout := range []int32{9, 1, 1000, 4, 5, 3} {
		p.ticks(t)
		p.adds(t, 7, timeout, api.OK)
		if n := len(p.c.All()); n != 2 {
			t.Errorf("P19.2: behind Add of one that is there, All has %d", n)
		}
	}
	for _, timeout := range noTimes {
		p.adds(t, 7, timeout, api.ErrArg)
	}
	for range 12 {
		p.ticks(t)
	}
	p.adds(t, 7, 2, api.OK) // it was told: it is there anew
	p.adds(t, 3, 2, api.OK)
	for range 4 {
		p.ticks(t)
	}
	p.lacks(t, 7)
}

// TestFull: as many as there may be; of more the wrong ones are told first.
func TestFull(t *testing.T) {
	p := full(t, 10)
	for _, id := range []int64{1, 3, 63, 129, 130, math.MaxInt64} {
		p.adds(t, id, 1, api.ErrLarge)
		p.adds(t, id, 1000, api.ErrLarge)
		p.lacks(t, id)
		for _, timeout := range noTimes {
			p.adds(t, id, timeout, api.ErrArg)
		}
		p.touches(t, id, api.ErrSession)
		p.removes(t, id, false)
	}
	for _, id := range noIds {
		p.adds(t, id, 1, api.ErrArg)
		p.adds(t, id, 0, api.ErrArg)
	}
	for i := range int64(api.MaxSessions) {
		p.adds(t, 2*(i+1), int32(1+i), api.OK)
		for _, timeout := range noTimes {
			p.adds(t, 2*(i+1), timeout, api.ErrArg)
		}
	}
	p.adds(t, 1, 1, api.ErrLarge)
}

// TestRoomAgain: where one went, whichever way, there is room for one, and for no more.
func TestRoomAgain(t *testing.T) {
	p := full(t, 10)
	for i := range int64(api.MaxSessions) {
		p.removes(t, 2*(i+1), true)
		p.adds(t, 1001+i, 1, api.OK)
		p.adds(t, 2*(i+1), 1, api.ErrLarge)
	}
	p.removes(t, 1001, true)
	p.adds(t, 1001, 11, api.OK) // the one that stays at tick 10
	for range 9 {
		if l := p.ticks(t); len(l) != 0 {
			t.Errorf("P19.3: told ahead of the span: %v", l)
		}
	}
	p.adds(t, 5, 1, api.ErrLarge)
	if l := p.ticks(t); len(l) != 63 {
		t.Errorf("P19.3: of 64 sessions, 63 are due; told: %v", l)
	}
	for i := range int64(63) {
		p.adds(t, 1+i, 1, api.OK)
	}
	p.adds(t, 64, 1, api.ErrLarge)
	p.adds(t, 1001, 1, api.OK)
}
