package chain_test

import (
	"runtime"
	"slices"
	"strings"
	"sync"
	"testing"
	"time"

	"lagoon/chain"
)

// left is how many goroutines there are that the package began.
func left() int {
	room := make([]byte, 1<<22)
	return strings.Count(string(room[:runtime.Stack(room, true)]), "created by lagoon/chain.")
}

// ended looks that none is there. One that has done its last statement may still be on its way out of the runtime: it gets the time for that, one that waits for something would stay.
func ended(t *testing.T, what string) {
	t.Helper()
	end := time.Now().Add(10 * time.Second)
	for left() > 0 {
		if time.Now().After(end) {
			t.Fatalf("P23.3: %s: %d goroutines are left behind", what, left())
		}
		time.Sleep(time.Millisecond)
	}
}

// TestNoGoroutineIsLeft: of Run, whatever its stages make; Pipe has none, left early or not.
func TestNoGoroutineIsLeft(t *testing.T) {
	for r := range rows(2) {
		for _, in := range inputs() {
			chain.Run(in, r.reals()...)
		}
		p := chain.Pipe(slices.Values([]int{1, 2, 3}), r.reals()...)
		for range p {
			break
		}
		list(p)
	}
	ended(t, "Run")
	p := chain.Pipe(slices.Values([]int{1, 2, 3}), chain.Func(double), ender())
	for range p {
		if n := left(); n > 0 {
			t.Errorf("P23.4: a Pipe has %d goroutines", n)
		}
	}
}

// TestNoGoroutineIsLeftBehindMany: what one call in many would leave is seen too.
func TestNoGoroutineIsLeftBehindMany(t *testing.T) {
	for range 3000 {
		chain.Run([]int{1, 2, 3}, chain.Func(double), nil, chain.Batch[int](2), ender())
	}
	ended(t, "behind many calls")
}

// TestSideBySide: calls that run at the same time, over the same list, with stages of their own, know nothing of each other.
func TestSideBySide(t *testing.T) {
	in := []int{5, -4, 0, 3, 3, 9, 8}
	var all []row
	for r := range rows(2) {
		all = append(all, r)
	}
	var group sync.WaitGroup
	for n := range 8 {
		group.Go(func() {
			for i := range all {
				r := all[(i+n*31)%len(all)]
				want := made(in, r.models())
				is(t, "R6: Run beside others", chain.Run(in, r.reals()...), want...)
				is(t, "R6: Pipe beside others", list(chain.Pipe(slices.Values(in), r.reals()...)), want...)
			}
		})
	}
	group.Wait()
	ended(t, "side by side")
}

// TestOneFuncInManyPlaces: Funcs of the same function know nothing of each other.
func TestOneFuncInManyPlaces(t *testing.T) {
	f := func(x int) []int { return []int{x + 1} }
	a, b := chain.Func(f), chain.Func(f)
	is(t, "P23.3: Run of two of them", chain.Run([]int{1}, a, b), 3)
	is(t, "P23.3: Run of them again", chain.Run([]int{1}, b, a), 3)
}
