package session_test

import (
	"math"
	"slices"
	"testing"

	"lagoon/api"
)

// TestTickTellsRising: whatever the order in which they came.
func TestTickTellsRising(t *testing.T) {
	ids := []int64{math.MaxInt64, 1, 1 << 40, 9, 1 << 32, 10, 2, 8, math.MaxInt32, 3}
	want := slices.Clone(ids)
	slices.Sort(want)
	for turn := range ids {
		p := begun(t, 6)
		for i := range ids {
			p.adds(t, ids[(i+turn)%len(ids)], int32(1+i%6), api.OK)
		}
		for range 5 {
			if l := p.ticks(t); len(l) != 0 {
				t.Errorf("P19.3: told ahead of time: %v", l)
			}
		}
		if l := p.c.Tick(); !slices.Equal(l, want) {
			t.Errorf("P19.3: Tick tells %v, not %v", l, want)
		}
		if l := p.c.All(); len(l) != 0 {
			t.Errorf("P19.3: they are there: %v", l)
		}
	}
}

// TestTickAtMultiples: told at a multiple of the span alone, and nothing is told behind it.
func TestTickAtMultiples(t *testing.T) {
	for span := 1; span <= 12; span++ {
		p := full(t, span)
		for range 2*span + 24 {
			if l := p.ticks(t); len(l) != 0 && p.tick%span != 0 {
				t.Errorf("P19.3: the span is %d; at %d are told %v", span, p.tick, l)
			}
		}
		if l := p.c.All(); len(l) != 0 {
			t.Errorf("P19.3: never told: %v", l)
		}
	}
}

// TestTickOfAll: as many as there may be, at one tick.
func TestTickOfAll(t *testing.T) {
	p := full(t, 8)
	for range 7 {
		p.ticks(t)
	}
	if l := p.ticks(t); len(l) != api.MaxSessions || !slices.IsSorted(l) {
		t.Errorf("P19.3: told are %v", l)
	}
	for range 20 {
		if l := p.ticks(t); len(l) != 0 {
			t.Errorf("P19.3: told twice: %v", l)
		}
	}
}

// TestTickByTick: at a span of 1 each is told at its own tick.
func TestTickByTick(t *testing.T) {
	p := begun(t, 1)
	for i := range int64(api.MaxSessions) {
		p.adds(t, i+1, int32(api.MaxSessions-i), api.OK)
	}
	for i := range int64(api.MaxSessions) {
		if l := p.ticks(t); !slices.Equal(l, []int64{api.MaxSessions - i}) {
			t.Errorf("P19.3: Tick to %d tells %v", i+1, l)
		}
	}
}

// TestLongest: the greatest span with the greatest time-out.
func TestLongest(t *testing.T) {
	p := begun(t, 1000)
	p.adds(t, 1, 1000, api.OK)
	p.ticks(t)
	p.adds(t, 2, 1000, api.OK)
	p.adds(t, 3, 999, api.OK)
	due(t, p.c, 1, 1000)
	due(t, p.c, 2, 2000)
	due(t, p.c, 3, 1000)
	for p.tick < 2000 {
		l := p.ticks(t)
		if p.tick == 1000 && !slices.Equal(l, []int64{1, 3}) || p.tick == 2000 && !slices.Equal(l, []int64{2}) {
			t.Errorf("P19.3: at %d are told %v", p.tick, l)
		}
	}
}
