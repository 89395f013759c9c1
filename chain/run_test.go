package chain_test

import (
	"fmt"
	"slices"
	"testing"
	"time"

	"lagoon/chain"
)

// TestRun: all rows of up to three stages, over each list; those that are nil stand in every place.
func TestRun(t *testing.T) {
	for r := range rows(3) {
		for _, in := range inputs() {
			makes(t, in, r)
		}
		if t.Failed() {
			return
		}
	}
}

func TestRunByHand(t *testing.T) {
	in := []int{1, 2, 3}
	is(t, "P23.3: of a nil stage", chain.Run(in, nil), 1, 2, 3)
	is(t, "P23.3: of nil stages", chain.Run(in, nil, nil, nil), 1, 2, 3)
	is(t, "P23.3: of a nil stage over nothing", chain.Run(nil, stage(nil)))
	is(t, "P23.3: of no stage over nothing", chain.Run([]int(nil)))
	is(t, "P23.3: nil first", chain.Run(in, nil, chain.Func(double), chain.Func(odd)), 1, 3, 3)
	is(t, "P23.3: nil in the middle", chain.Run(in, chain.Func(double), nil, chain.Func(odd)), 1, 3, 3)
	is(t, "P23.3: nil last", chain.Run(in, chain.Func(double), chain.Func(odd), nil), 1, 3, 3)
	is(t, "P23.3: the end of the first goes through the second", chain.Run(in, ender(), chain.Func(double)), 1, 2, 2, 3, 3, 4, 7, 8, 8, 9)
	is(t, "P23.3: each has its end", chain.Run(in[:1], ender(), nil, ender(), chain.Func(double), ender()), 1, 2, 7, 8, 8, 9, 7, 8, 8, 9, 7, 8)
	is(t, "P23.3: ends over nothing", chain.Run(nil, ender(), ender()), 7, 8, 7, 8)
	is(t, "P23.3: what an end answers may be kept", chain.Run(nil, ender(), chain.Batch[int](3), ender()), 7, 8, 7, 8)
	is(t, "P23.3: what was kept goes ahead of the next end", chain.Run(in, chain.Batch[int](2), ender()), 1, 2, 3, 7, 8)
}

// calls are a stage's, in their order.
func calls(all []event, at int) []event {
	return slices.DeleteFunc(slices.Clone(all), func(e event) bool { return e.stage != at })
}

// wantCalls are the calls of one stage to which these things come: one behind the other has ended, End behind all.
func wantCalls(at int, come []int) []event {
	var l []event
	for _, x := range come {
		l = append(l, event{"do", at, x}, event{"done", at, x})
	}
	return append(l, event{"end", at, 0}, event{"done", at, 0})
}

// TestRunCallsEachStageInOrder: once for each thing that comes to it, and at the end once, no two calls at a time; and none is under way behind Run.
func TestRunCallsEachStageInOrder(t *testing.T) {
	for r := range rows(2) {
		for _, p := range parts() {
			r := append(slices.Clone(r), p)
			for _, in := range inputs() {
				var l tape
				chain.Run(in, l.noteAll(r.reals())...)
				all := l.take()
				models := r.models()
				for i, s := range models {
					if s == nil {
						continue
					}
					want := wantCalls(i, made(in, r[:i].models()))
					if got := calls(all, i); !slices.Equal(got, want) {
						t.Fatalf("P23.3: Run(%v, %v): stage %d is called %v, not %v", in, r, i, got, want)
					}
				}
			}
		}
	}
}

// TestRunAgain: the stages go on as they stand.
func TestRunAgain(t *testing.T) {
	for r := range rows(2) {
		reals, models := r.reals(), r.models()
		for range 3 {
			for _, in := range inputs() {
				is(t, fmt.Sprintf("P23.3: Run(%v, %v), again", in, r), chain.Run(in, reals...), made(in, models)...)
			}
		}
	}
}

// TestRunWithManyThings: more than any room between two stages holds, at each place of the row.
func TestRunWithManyThings(t *testing.T) {
	const many = 200000
	in := make([]int, many)
	for i := range in {
		in[i] = i
	}
	flood := strange("flood", func() stage {
		return own{func(x int) []int {
			if x != 0 {
				return nil
			}
			return slices.Clone(in)
		}, func() []int { return slices.Clone(in) }}
	})
	last := strange("last", func() stage {
		sum := 0
		return own{func(x int) []int {
			sum += x
			return nil
		}, func() []int { return []int{sum} }}
	})
	half := of("odd", odd, odd)
	for _, r := range []row{
		nil, {noStage}, {half}, {half, half, half}, {of("double", double, double), half}, {batch(1 << 40)}, {batch(3), batch(1000), batch(7)}, {last}, {half, last}, {last, strange("ender", ender), last},
		{flood}, {flood, half}, {half, flood}, {batch(1 << 40), half, batch(70000), last}, {noStage, flood, noStage, flood, half, last},
	} {
		makes(t, in, r)
	}
	makes(t, in[:1], row{flood, flood, last, flood, half})
	makes(t, nil, row{flood, batch(1 << 40), half, batch(64)})
}

// TestRunWithManyStages: each of which adds one.
func TestRunWithManyStages(t *testing.T) {
	for _, many := range []int{10, 100, 1000, 20000} {
		var stages []stage
		for range many {
			stages = append(stages, chain.Func(func(x int) []int { return []int{x + 1} }))
		}
		is(t, "P23.3: Run of many stages", chain.Run([]int{1, 2, 3}, stages...), many+1, many+2, many+3)
		is(t, "P23.4: Pipe of many stages", list(chain.Pipe(slices.Values([]int{1, 2, 3}), stages...)), many+1, many+2, many+3)
		clear(stages)
		is(t, "P23.3: Run of many that are nil", chain.Run([]int{1, 2, 3}, stages...), 1, 2, 3)
	}
}

// TestRunAtUnlikePaces: a stage that is slow now and then changes nothing, wherever it stands, and Run answers behind its last call.
func TestRunAtUnlikePaces(t *testing.T) {
	in := []int{1, 2, 3, 4, 5, 6, 7, 8}
	for at := range 4 {
		under := 0 // without a lock: what Run answers lies behind all that its stages did
		slow := own{func(x int) []int {
			under++
			time.Sleep(time.Millisecond)
			under--
			return []int{x}
		}, func() []int {
			under++
			time.Sleep(20 * time.Millisecond)
			under--
			return nil
		}}
		stages := slices.Insert([]stage{chain.Func(double), chain.Batch[int](3), chain.Func(odd)}, at, stage(slow))
		is(t, "P23.3: Run of a slow stage", chain.Run(in, stages...), made(in, []stage{plain(double), plain(odd)})...)
		if under != 0 {
			t.Errorf("P23.3: slow at %d: behind Run %d calls are under way", at, under)
		}
	}
}

// TestNoCallBehindRun: each call that its stages noted has ended, and none comes behind it.
func TestNoCallBehindRun(t *testing.T) {
	var tapes []*tape
	for r := range rows(2) {
		var l tape
		chain.Run([]int{1, 2, 3, 4, 5}, l.noteAll(r.reals())...)
		tapes = append(tapes, &l)
		open := 0
		for _, e := range l.take() {
			if e.what == "done" {
				open--
			} else {
				open++
			}
		}
		if open != 0 {
			t.Errorf("P23.3: behind Run of %v %d calls are under way", r, open)
		}
	}
	time.Sleep(20 * time.Millisecond)
	for _, l := range tapes {
		if all := l.take(); len(all) > 0 {
			t.Errorf("P23.3: behind Run there are calls: %v", all)
		}
	}
}

// TestRunInAStage: what a stage does may be a Run itself.
func TestRunInAStage(t *testing.T) {
	inner := chain.Func(func(x int) []int { return chain.Run([]int{x, x}, chain.Func(double), chain.Batch[int](3), ender()) })
	is(t, "P23.3: a Run in a Run", chain.Run([]int{1, 5}, inner, chain.Func(odd)), 1, 1, 7, 5, 5, 7)
}
