package quorum_test

import (
	"math"
	"slices"
	"testing"

	"lagoon/api"
	"lagoon/quorum"
)

func refuses(t *testing.T, weights, groups []int) {
	t.Helper()
	if s, e := quorum.New(weights, groups); s != nil || e != api.ErrQuorum {
		t.Errorf("P20.1: New(%v, %v) = %v, %d", weights, groups, s, e)
	}
}

// TestNewOfEachNumber: with 0 to 9 weights and 0 to 9 groups, each of them within its bounds.
func TestNewOfEachNumber(t *testing.T) {
	for n := range 10 {
		for m := range 10 {
			w := words{likes(n, 1), likes(m, 0)}
			if n == m && n >= 1 && n <= 7 {
				looks(t, w, made(t, w))
			} else {
				refuses(t, w.weights, w.groups)
			}
		}
	}
	refuses(t, nil, nil)
	refuses(t, nil, []int{})
	refuses(t, []int{1}, nil)
	refuses(t, nil, []int{0})
	refuses(t, likes(257, 1), likes(257, 0))
	refuses(t, likes(256, 1), likes(256, 0))
	refuses(t, likes(3, 1), likes(259, 0))
}

// TestBoundsOfAWeight: of each server in turn, beside servers that count.
func TestBoundsOfAWeight(t *testing.T) {
	for size := 2; size <= 7; size++ {
		for at := range size {
			for _, weight := range []int{0, 1, 2, 50, 99, 100} {
				w := words{likes(size, 1), likes(size, 0)}
				w.weights[at] = weight
				looks(t, w, made(t, w))
			}
			for _, weight := range []int{-1, -2, -100, 101, 102, 255, 256, 1 << 32, 1<<32 + 1, math.MinInt, math.MinInt32, math.MaxInt32, math.MaxInt} {
				w := words{likes(size, 1), likes(size, 0)}
				w.weights[at] = weight
				refuses(t, w.weights, w.groups)
			}
		}
	}
	for _, weight := range []int{-1, 0, 101} {
		refuses(t, []int{weight}, []int{0})
	}
}

// TestBoundsOfAGroup: of each server in turn; of one that does not count, too.
func TestBoundsOfAGroup(t *testing.T) {
	for size := 1; size <= 7; size++ {
		for at := range size {
			for weight := range 2 {
				w := words{likes(size, 1), likes(size, 0)}
				w.weights[at] = weight
				for group := range 7 {
					w.groups[at] = group
					if size > 1 || weight > 0 {
						looks(t, w, made(t, w))
					} else {
						refuses(t, w.weights, w.groups)
					}
				}
				for _, group := range []int{-1, -2, -7, 7, 8, 100, 256, 1 << 32, math.MinInt, math.MinInt32, math.MaxInt32, math.MaxInt} {
					w.groups[at] = group
					refuses(t, w.weights, w.groups)
				}
			}
		}
	}
}

// TestNoneCounts: a system without weight is none, whatever its groups; with one server that counts it is one.
func TestNoneCounts(t *testing.T) {
	for size := 1; size <= 7; size++ {
		w := words{likes(size, 0), likes(size, 3)}
		refuses(t, w.weights, w.groups)
		for at := range size {
			w.groups[at] = at
			refuses(t, w.weights, w.groups)
		}
		for at := range size {
			w.weights[at] = 1
			looks(t, w, made(t, w))
			w.weights[at] = 0
		}
	}
	// weights that make up for one another are not within their bounds
	refuses(t, []int{-1, 1}, []int{0, 0})
	refuses(t, []int{-1, 2}, []int{0, 0})
	refuses(t, []int{2, -1}, []int{0, 1})
}

// TestNewIsInOrder: the servers are those of the lists, one by one.
func TestNewIsInOrder(t *testing.T) {
	w := words{[]int{0, 5, 0, 0, 1, 2, 0}, []int{6, 5, 4, 3, 2, 1, 0}}
	s := made(t, w)
	for n := range int8(7) {
		if s.Counts(n) != (n == 1 || n == 4 || n == 5) {
			t.Errorf("P20.1: Counts(%d) = %v", n, s.Counts(n))
		}
	}
	looks(t, w, s)
	w = words{[]int{5, 3, 3}, []int{0, 0, 1}}
	looks(t, w, made(t, w))
	slices.Reverse(w.weights)
	looks(t, w, made(t, w))
	slices.Reverse(w.groups)
	looks(t, w, made(t, w))
}
