package quorum_test

import (
	"math"
	"testing"
)

func TestSeveral(t *testing.T) {
	for _, w := range several() {
		s := made(t, w)
		looks(t, w, s)
		looks(t, w, s) // nothing changes by it
	}
}

// TestEachSmallSystem: all systems of up to three servers with weights 0 to 3 in groups 0, 3 and 6.
func TestEachSmallSystem(t *testing.T) {
	for size := 1; size <= 3; size++ {
		each(size, 4, func(weights []int) {
			each(size, 3, func(groups []int) {
				for n := range groups {
					groups[n] *= 3
				}
				w := words{weights, groups}
				if w.counts() == 0 {
					refuses(t, weights, groups)
				} else if !t.Failed() {
					looks(t, w, made(t, w))
				}
			})
		})
	}
}

// each gives all lists of numbers below a bound.
func each(size, below int, give func(l []int)) {
	many := 1
	for range size {
		many *= below
	}
	for x := range many {
		l := make([]int, size)
		for n := range l {
			l[n] = x % below
			x /= below
		}
		give(l)
	}
}

// TestCountsOfNoServer: whatever the system's size, a number below 0 and one behind the last count not.
func TestCountsOfNoServer(t *testing.T) {
	for size := 1; size <= 7; size++ {
		s := made(t, words{likes(size, 100), likes(size, 6)})
		for n := range int8(7) {
			if s.Counts(n) != (int(n) < size) {
				t.Errorf("P20.2: of %d servers: Counts(%d) = %v", size, n, s.Counts(n))
			}
		}
		for _, n := range append([]int8{int8(size), int8(size + 1), math.MaxInt8, math.MinInt8}, noServers...) {
			if s.Counts(n) {
				t.Errorf("P20.2: of %d servers: Counts(%d)", size, n)
			}
		}
	}
}

// TestHalfOfAGroup: twice just half of its weight is not more than the group's.
func TestHalfOfAGroup(t *testing.T) {
	s := made(t, words{[]int{1, 1, 1, 1}, likes(4, 0)})
	has(t, s, false, 3, 5, 6, 9, 10, 12)
	least(t, s, true, 7, 11, 13, 14)
	s = made(t, words{[]int{50, 25, 25}, likes(3, 2)})
	has(t, s, false, 1, 6, 2, 4)
	least(t, s, true, 3, 5)
	s = made(t, words{[]int{51, 25, 25}, likes(3, 2)})
	has(t, s, false, 6)
	least(t, s, true, 1)
	s = made(t, words{[]int{50, 26, 25}, likes(3, 2)})
	has(t, s, false, 1)
	least(t, s, true, 3, 5, 6)
	s = made(t, words{[]int{100, 100, 100, 100, 100, 100, 0}, likes(7, 6)})
	has(t, s, false, 7, 56, 7+64)
	least(t, s, true, 15, 60)
	least(t, s, false, 15+64)
}

// TestHalfOfTheGroups: just half of the groups that count is no quorum; those that do not count are not asked.
func TestHalfOfTheGroups(t *testing.T) {
	s := made(t, words{[]int{1, 1}, []int{0, 1}})
	has(t, s, false, 1, 2)
	least(t, s, true, 3)
	s = made(t, words{[]int{1, 1, 1, 1}, []int{0, 1, 5, 6}})
	has(t, s, false, 3, 5, 6, 9, 10, 12)
	least(t, s, true, 7, 11, 13, 14)
	s = made(t, words{[]int{1, 1, 1, 0}, []int{0, 1, 5, 6}})
	least(t, s, true, 3, 5, 6)
	has(t, s, false, 1+8, 2+8, 4+8, 8)
	// a group counts as a whole, however heavy it is
	s = made(t, words{[]int{100, 1, 1}, []int{0, 1, 2}})
	has(t, s, false, 1)
	least(t, s, true, 6)
	// two of three groups are held by two servers, the others' weight is in the third
	s = made(t, words{[]int{2, 1, 2, 1, 100, 100, 100}, []int{4, 4, 5, 5, 6, 6, 6}})
	least(t, s, true, 1+4, 1+16+32)
	has(t, s, false, 2+8+16, 16+32+64, 1+2+8)
}

// TestBitsOfNoServer are passed over, in Has and in Least.
func TestBitsOfNoServer(t *testing.T) {
	for _, w := range several() {
		s := made(t, w)
		for set := range 256 {
			bare := uint8(set) & w.all()
			if s.Has(uint8(set)) != s.Has(bare) || s.Least(uint8(set)) != s.Least(bare) {
				t.Errorf("P20.2: %v: %08b is another set than %08b", w, set, bare)
			}
		}
		has(t, s, false, ^w.all(), 128, 0)
		has(t, s, true, 255, w.all(), w.counts(), w.all()|128)
		least(t, s, false, ^w.all(), 128, 0)
	}
}
