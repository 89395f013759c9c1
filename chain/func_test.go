package chain_test

import (
	"math"
	"slices"
	"testing"

	"lagoon/chain"
)

// someThings are numbers that a stage may be handed.
var someThings = []int{0, 1, 2, 3, -1, -2, 7, 1 << 40, math.MaxInt, math.MinInt}

func TestFunc(t *testing.T) {
	for _, f := range []func(x int) []int{double, odd, none, lots, func(int) []int { return nil }} {
		s := chain.Func(f)
		for range 2 {
			for _, x := range someThings {
				is(t, "P23.1: Do of a Func", s.Do(x), f(x)...)
			}
			is(t, "P23.1: End of a Func", s.End())
		}
	}
}

func TestFuncOfNil(t *testing.T) {
	s := chain.Func[int](nil)
	for range 2 {
		for _, x := range someThings {
			is(t, "P23.1: Do of a Func of nil", s.Do(x), x)
		}
		is(t, "P23.1: End of a Func of nil", s.End())
	}
	if l := chain.Func[string](nil).Do("a"); !slices.Equal(l, []string{"a"}) {
		t.Errorf("P23.1: of a text: %q", l)
	}
	if l := chain.Func[error](nil).Do(nil); len(l) != 1 || l[0] != nil {
		t.Errorf("P23.1: of nil: %v", l)
	}
	if l := chain.Func[[]int](nil).Do(nil); len(l) != 1 || l[0] != nil {
		t.Errorf("P23.1: of a list that is nil: %v", l)
	}
}

// TestFuncIsAskedOnce: the function, for each Do, and by nothing else.
func TestFuncIsAskedOnce(t *testing.T) {
	var asked []int
	s := chain.Func(func(x int) []int {
		asked = append(asked, x)
		return nil
	})
	s.End()
	s.Do(5)
	s.Do(5)
	s.End()
	s.Do(6)
	is(t, "P23.1: what the function was asked", asked, 5, 5, 6)
}

// TestFuncThatChanges: it answers what the function answers then.
func TestFuncThatChanges(t *testing.T) {
	many := 0
	s := chain.Func(func(x int) []int {
		many++
		return slices.Repeat([]int{x}, many)
	})
	is(t, "P23.1: the first", s.Do(3), 3)
	is(t, "P23.1: the second", s.Do(3), 3, 3)
	is(t, "P23.1: the third", s.Do(4), 4, 4, 4)
}

// TestStagesMayBeCompared: each one that is made is another one, and none is nil.
func TestStagesMayBeCompared(t *testing.T) {
	var all []stage
	for range 2 {
		all = append(all, chain.Func(double), chain.Func[int](nil), chain.Batch[int](2), chain.Batch[int](0))
	}
	for i, a := range all {
		if a == nil {
			t.Errorf("P23.1: %d is nil", i)
		}
		for j, b := range all {
			if (a == b) != (i == j) {
				t.Errorf("P23.1: %d and %d: %v", i, j, a == b)
			}
		}
	}
}
