package vote_test

import (
	"math"
	"testing"

	"lagoon/api"
	"lagoon/vote"
)

// above holds that of two votes the one is better, the other one not.
func above(t *testing.T, a, b api.Vote) {
	t.Helper()
	if !vote.Better(a, b) {
		t.Errorf("P21.1: Better(%v, %v) = false", a, b)
	}
	if vote.Better(b, a) {
		t.Errorf("P21.1: Better(%v, %v) = true", b, a)
	}
}

func level(t *testing.T, a, b api.Vote) {
	t.Helper()
	if vote.Better(a, b) || vote.Better(b, a) {
		t.Errorf("P21.1: Better(%v, %v) = %v, the other way round %v", a, b, vote.Better(a, b), vote.Better(b, a))
	}
}

// TestBetterByOneThing: votes that differ in it alone, up to the bounds.
func TestBetterByOneThing(t *testing.T) {
	for i, more := range ends {
		for _, less := range ends[:i] {
			above(t, x(1, more, z(3, 3), 1), x(1, less, z(3, 3), 1))
			above(t, x(1, 3, z(more, 3), 1), x(1, 3, z(less, 3), 1))
			above(t, x(1, 3, z(3, more), 1), x(1, 3, z(3, less), 1))
		}
	}
	for more := math.MinInt8; more <= math.MaxInt8; more++ {
		for less := math.MinInt8; less < more; less++ {
			above(t, x(int8(more), 3, z(3, 3), 1), x(int8(less), 3, z(3, 3), 1))
		}
	}
}

// TestRoundSaysNothing: not by itself, and not against anything else.
func TestRoundSaysNothing(t *testing.T) {
	rounds := []int64{math.MinInt64, -1, 0, 1, 2, math.MaxInt64}
	for _, a := range rounds {
		for _, b := range rounds {
			level(t, x(1, 3, z(3, 3), a), x(1, 3, z(3, 3), b))
			above(t, x(2, 3, z(3, 3), a), x(1, 3, z(3, 3), b))
			above(t, x(1, 3, z(3, 4), a), x(1, 3, z(3, 3), b))
			above(t, x(1, 3, z(4, 3), a), x(1, 3, z(3, 3), b))
			above(t, x(1, 4, z(3, 3), a), x(1, 3, z(3, 3), b))
		}
	}
}

// TestFirstThingFirst: what comes behind says nothing, however much it is.
func TestFirstThingFirst(t *testing.T) {
	const most = math.MaxUint32
	above(t, x(-128, 1, z(0, 0), 0), x(127, 0, z(most, most), 9))
	above(t, x(-128, 1, z(1, 0), 0), x(127, 1, z(0, most), 9))
	above(t, x(-128, 1, z(1, 1), 0), x(127, 1, z(1, 0), 9))
	above(t, x(-127, 1, z(1, 1), 0), x(-128, 1, z(1, 1), 9))
}

// TestBetterIsAnOrder: of any two, right or not, as the chapter says it; none is better than itself.
func TestBetterIsAnOrder(t *testing.T) {
	var all []api.Vote
	some := []uint32{0, 1, 2, 1 << 31, math.MaxUint32}
	for _, who := range []int8{-128, -1, 0, 1, 6, 7, 127} {
		for _, current := range some {
			for _, epoch := range some {
				for _, n := range some {
					all = append(all, x(who, current, z(epoch, n), int64(len(all)%5-2)))
				}
			}
		}
	}
	for _, a := range all {
		level(t, a, a)
		for _, b := range all {
			if got := vote.Better(a, b); got != (order(a, b) > 0) {
				t.Errorf("P21.1: Better(%v, %v) = %v", a, b, got)
			}
		}
	}
}
