package session_test

import (
	"math"
	"testing"

	"lagoon/api"
)

// TestTouch: its time begins anew, with the time-out that it has; that of no other one does.
func TestTouch(t *testing.T) {
	for _, span := range []int{1, 2, 5, 1000} {
		p := begun(t, span)
		p.adds(t, 7, 3, api.OK)
		p.adds(t, 8, 3, api.OK)
		p.adds(t, 9, 1000, api.OK)
		for range 12 {
			p.touches(t, 7, api.OK)
			p.ticks(t)
			p.touches(t, 9, api.OK)
			p.touches(t, 9, api.OK)
		}
		p.adds(t, 7, 11, api.OK)
		p.ticks(t)
		p.touches(t, 7, api.OK) // by the later time-out
	}
}

func TestTouchOfNone(t *testing.T) {
	p := begun(t, 2)
	p.adds(t, 7, 3, api.OK)
	for _, id := range append([]int64{1, 6, 8, 1<<32 + 7, math.MaxInt64}, noIds...) {
		p.touches(t, id, api.ErrSession)
		p.lacks(t, id)
	}
	p.removes(t, 7, true)
	p.touches(t, 7, api.ErrSession)
	p.adds(t, 7, 3, api.OK)
	for range 4 {
		p.ticks(t)
	}
	p.touches(t, 7, api.ErrSession)
	p.adds(t, 7, 5, api.OK)
	p.touches(t, 7, api.OK)
}

// TestRemove: it is gone, it is never told, and no other one goes with it.
func TestRemove(t *testing.T) {
	p := begun(t, 3)
	for id := range int64(9) {
		p.adds(t, id+1, int32(id+1), api.OK)
	}
	for _, id := range append([]int64{10, 1<<32 + 1, math.MaxInt64}, noIds...) {
		p.removes(t, id, false)
	}
	for _, id := range []int64{2, 9, 4, 2} {
		p.removes(t, id, p.place(id) >= 0)
		p.removes(t, id, false)
		p.ticks(t)
	}
	p.removes(t, 1, false) // it was told at 3
	for range 9 {
		p.ticks(t)
	}
	p.adds(t, 2, 2, api.OK)
	p.removes(t, 2, true)
}
