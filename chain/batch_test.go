package chain_test

import (
	"fmt"
	"math"
	"math/rand/v2"
	"testing"

	"lagoon/chain"
)

// pair is a Batch, and what it is to be.
type pair struct {
	name string
	b    stage
	keeper
}

func batchOf(n int) *pair {
	return &pair{fmt.Sprintf("P23.2: Batch(%d): ", n), chain.Batch[int](n), keeper{n: n}}
}

func (p *pair) does(t *testing.T, x int) {
	t.Helper()
	is(t, p.name+fmt.Sprintf("Do(%d)", x), p.b.Do(x), p.Do(x)...)
}

func (p *pair) ends(t *testing.T) {
	t.Helper()
	is(t, p.name+"End", p.b.End(), p.End()...)
}

// TestBatch: up to far more things than it hands on at a time, End behind each number of them, twice, and on from there.
func TestBatch(t *testing.T) {
	for _, n := range []int{math.MinInt, -2, -1, 0, 1, 2, 3, 4, 7, 20, 21, 1 << 20, math.MaxInt} {
		for many := range 21 {
			p := batchOf(n)
			for range 3 {
				for x := range many {
					p.does(t, 10*x)
				}
				p.ends(t)
				p.ends(t)
			}
		}
	}
}

// TestBatchByHand: without the tests' model of it.
func TestBatchByHand(t *testing.T) {
	b := chain.Batch[int](3)
	is(t, "P23.2: End of a new one", b.End())
	for range 2 {
		is(t, "P23.2: Do(4)", b.Do(4))
		is(t, "P23.2: Do(4) again", b.Do(4))
		is(t, "P23.2: Do(5)", b.Do(5), 4, 4, 5)
		is(t, "P23.2: Do(6)", b.Do(6))
		is(t, "P23.2: End", b.End(), 6)
		is(t, "P23.2: End again", b.End())
	}
	for _, n := range []int{-1, 0, 1} {
		b = chain.Batch[int](n)
		is(t, "P23.2: End of one by one", b.End())
		is(t, "P23.2: Do of one by one", b.Do(7), 7)
		is(t, "P23.2: Do of one by one, again", b.Do(8), 8)
		is(t, "P23.2: End of one by one, at last", b.End())
	}
}

// TestBatchKeepsAll: as many as come, if that is less than it hands on at a time.
func TestBatchKeepsAll(t *testing.T) {
	const many = 100000
	p := batchOf(many)
	for x := range many - 1 {
		p.does(t, x)
	}
	p.ends(t)
	for x := range many {
		p.does(t, -x)
	}
	p.ends(t)
}

// TestBatchesKnowNothingOfEachOther: of as many at a time, too.
func TestBatchesKnowNothingOfEachOther(t *testing.T) {
	p, q := batchOf(3), batchOf(3)
	for x := range 20 {
		p.does(t, x)
		q.does(t, 100+x)
		if x%4 == 3 {
			q.ends(t)
		}
	}
	p.ends(t)
	q.ends(t)
}

func TestBatchByChance(t *testing.T) {
	r := rand.New(rand.NewPCG(23, 1))
	for range 300 {
		p := batchOf(r.IntN(9) - 1)
		for range 100 {
			if r.IntN(5) == 0 {
				p.ends(t)
			} else {
				p.does(t, r.IntN(4))
			}
		}
	}
}
