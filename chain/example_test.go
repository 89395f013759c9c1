package chain_test

import (
	"slices"
	"testing"

	"lagoon/chain"
)

func TestFirstExample(t *testing.T) {
	in := []int{1, 2, 3}
	is(t, "P23.3: Run of double", chain.Run(in, chain.Func(double)), 1, 2, 2, 3, 3, 4)
	is(t, "P23.3: Run of double, odd", chain.Run(in, chain.Func(double), chain.Func(odd)), 1, 3, 3)
	is(t, "P23.3: Run of no stage", chain.Run(in), 1, 2, 3)
	is(t, "P23.3: Run over nothing", chain.Run(nil, chain.Func(double)))
}

func TestSecondExample(t *testing.T) {
	b := chain.Batch[int](2)
	is(t, "P23.2: Do(1)", b.Do(1))
	is(t, "P23.2: Do(2)", b.Do(2), 1, 2)
	is(t, "P23.2: Do(3)", b.Do(3))
	is(t, "P23.2: End", b.End(), 3)
	is(t, "P23.2: End again", b.End())
	is(t, "P23.3: Run of a Batch, double", chain.Run([]int{1, 2, 3}, chain.Batch[int](2), chain.Func(double)), 1, 2, 2, 3, 3, 4)
	is(t, "P23.2: Do(1) of Batch(0)", chain.Batch[int](0).Do(1), 1)
}

func TestThirdExample(t *testing.T) {
	var l tape
	p := chain.Pipe(l.seq([]int{1, 2, 3}), chain.Batch[int](2), chain.Func(double))
	if got, want := l.gone(p, 1), []event{{"ask", 0, 1}, {"ask", 0, 2}, {"give", 0, 1}, {"left", 0, 0}}; !slices.Equal(got, want) {
		t.Errorf("P23.4: left behind the first thing: %v", got)
	}
	is(t, "P23.4: the Pipe, gone over again", list(p), 1, 2, 2, 3, 3, 4)
}

func TestFourthExample(t *testing.T) {
	end := own{odd, func() []int { return []int{7} }}
	is(t, "P23.4: Pipe over nothing", list(chain.Pipe(slices.Values([]int{}), stage(end), chain.Func(double))), 7, 8)
	is(t, "P23.4: Pipe over nil", list(chain.Pipe(nil, stage(end), chain.Func(double))), 7, 8)
}
