package choose_test

import (
	"math"
	"math/rand/v2"
	"slices"
	"testing"

	"lagoon/api"
	"lagoon/choose"
	"lagoon/txn"
)

// anyAbove are so many zxids that rise above one, with gaps of any width.
func anyAbove(g *rand.Rand, at api.Zxid, n int) []api.Zxid {
	var out []api.Zxid
	for range n {
		if at.Epoch == 0 || g.IntN(3) == 0 { // with epoch 0 only zero may be
			at = z(at.Epoch+1+uint32(g.IntN(2)), 0)
		}
		at.N += 1 + uint32(g.IntN(3))
		out = append(out, at)
	}
	return out
}

// anyLog are transactions of these zxids, of any bytes; now and then one that layer 4 refuses, if that is wanted.
func anyLog(t *testing.T, g *rand.Rand, refuse bool, l ...api.Zxid) []api.Txn {
	var out []api.Txn
	for _, at := range l {
		x := sized(t, at, leastSize+g.IntN(mostSize-leastSize+1))
		if refuse && g.IntN(6) == 0 {
			x = refused(t, at)
		}
		out = append(out, x)
	}
	return out
}

// anyFactor is often near what makes the bytes just so many.
func anyFactor(g *rand.Rand, bytes, image int) float64 {
	if g.IntN(4) == 0 {
		return factors()[g.IntN(len(factors()))]
	}
	return (float64(bytes) + float64(g.IntN(3)-1)) / float64(image)
}

// question is what Way is asked.
type question struct {
	peer, snap    api.Zxid
	log           []api.Txn
	cached, image int
	factor        float64
}

func (q question) way(t *testing.T) api.Choice {
	t.Helper()
	c, e := choose.Way(q.peer, q.snap, q.log, q.cached, q.image, q.factor)
	if e != api.OK {
		t.Fatalf("P14.1: %v: %d", q, e)
	}
	return c
}

// anyQuestion is one that is answered, mostly with a peer at or near what stands in the history.
func anyQuestion(t *testing.T, g *rand.Rand, refuse bool) question {
	snap := anyAbove(g, z(0, 0), 1)[0]
	if g.IntN(3) == 0 {
		snap = api.Zxid{}
	}
	all := anyAbove(g, snap, g.IntN(12))
	l := anyLog(t, g, refuse, all...)
	near := around(append(all, snap)...)
	image := g.IntN(1500)
	if g.IntN(10) == 0 {
		image = 0
	}
	bytes := size(l[g.IntN(len(l)+1):])
	return question{near[g.IntN(len(near))], snap, l, g.IntN(len(l) + 1), image, anyFactor(g, bytes, image)}
}

// TestAnyWay: many questions, each answered by the document's words as they stand.
func TestAnyWay(t *testing.T) {
	g := rand.New(rand.NewPCG(14, 2))
	seen := map[api.Choice]int{}
	for range 20000 {
		q := anyQuestion(t, g, true)
		want := chosen(q.peer, q.snap, q.log, q.cached, q.image, q.factor)
		chooses(t, "P14.1: any question", want, q.peer, q.snap, q.log, q.cached, q.image, q.factor)
		seen[api.Choice{Way: want.Way, Cached: want.Cached}]++
	}
	for _, c := range []api.Choice{{Way: api.ByDiff}, {Way: api.ByDiff, Cached: true}, {Way: api.ByTrunc, Cached: true}, {Way: api.ByTruncDiff}, {Way: api.ByTruncDiff, Cached: true}, {Way: api.BySnap}} {
		if seen[c] < 50 {
			t.Errorf("%v was the answer %d times alone", c, seen[c])
		}
	}
}

// TestSameHistory: what a follower has up to From, and the log behind it, is the leader's history, where From stands in both.
func TestSameHistory(t *testing.T) {
	g := rand.New(rand.NewPCG(14, 3))
	held := 0
	for range 5000 {
		q := anyQuestion(t, g, false)
		common := q.log[:g.IntN(len(q.log)+1)]
		last := q.snap
		if len(common) > 0 {
			last = common[len(common)-1].Zxid
		}
		own := slices.DeleteFunc(anyAbove(g, last, g.IntN(4)), func(at api.Zxid) bool {
			return slices.ContainsFunc(q.log, func(x api.Txn) bool { return x.Zxid == at })
		})
		follower := slices.Concat(common, anyLog(t, g, false, own...))
		q.peer = q.snap
		if len(follower) > 0 {
			q.peer = follower[len(follower)-1].Zxid
		}
		c := q.way(t)
		stands := func(x api.Txn) bool { return x.Zxid == c.From }
		if c.Way == api.BySnap || c.From != q.snap && !(slices.ContainsFunc(follower, stands) && slices.ContainsFunc(q.log, stands)) {
			continue
		}
		held++
		above := func(x api.Txn) bool { return below(c.From, x.Zxid) }
		notAbove := func(x api.Txn) bool { return !above(x) }
		got := slices.Concat(slices.DeleteFunc(slices.Clone(follower), above), slices.DeleteFunc(slices.Clone(q.log), notAbove))
		if !slices.EqualFunc(got, q.log, txn.Same) {
			t.Errorf("P14.1: behind %v: %v, not %v", c, got, q.log)
		}
		cut := c.Way == api.ByTrunc || c.Way == api.ByTruncDiff
		if cut != slices.ContainsFunc(follower, above) {
			t.Errorf("P14.1: %v for a follower at %v", c, q.peer)
		}
	}
	if held < 1000 {
		t.Errorf("From stood in both histories %d times alone", held)
	}
}

// TestAllAtHand: then it is never by a copy, unless the follower is below the snapshot.
func TestAllAtHand(t *testing.T) {
	g := rand.New(rand.NewPCG(14, 4))
	for range 5000 {
		q := anyQuestion(t, g, true)
		q.cached = len(q.log)
		if c := q.way(t); (c.Way == api.BySnap) != below(q.peer, q.snap) || c.Cached == (c.Way == api.BySnap) {
			t.Errorf("P14.1: all at hand: %v: %v", q, c)
		}
	}
}

// TestNoMeasure: with a factor that is not a number, or below 0, and nothing at hand it is by a copy, unless there is nothing to send.
func TestNoMeasure(t *testing.T) {
	g := rand.New(rand.NewPCG(14, 5))
	for range 5000 {
		q := anyQuestion(t, g, false)
		q.cached = 0
		last := q.snap
		if len(q.log) > 0 {
			last = q.log[len(q.log)-1].Zxid
		}
		for _, q.factor = range []float64{math.NaN(), -1, -math.SmallestNonzeroFloat64, -math.MaxFloat64, math.Inf(-1)} {
			if c := q.way(t); (c.Way == api.BySnap) != below(q.peer, last) {
				t.Errorf("P14.1: no measure: %v: %v", q, c)
			}
		}
	}
}

// TestMoreIsNeverSnap: more at hand, a greater image, a greater factor of finite numbers from 0 on never turn a choice into BySnap.
func TestMoreIsNeverSnap(t *testing.T) {
	g := rand.New(rand.NewPCG(14, 6))
	for range 20000 {
		q := anyQuestion(t, g, true)
		if !(q.factor >= 0) || math.IsInf(q.factor, 0) || q.way(t).Way == api.BySnap {
			continue
		}
		more := []question{q, q, q}
		more[0].cached += g.IntN(len(q.log) - q.cached + 1)
		more[1].image += g.IntN(2000)
		more[2].factor = min(math.MaxFloat64, q.factor*(1+g.Float64())+math.SmallestNonzeroFloat64)
		for _, m := range more {
			if c := m.way(t); c.Way == api.BySnap || c.From != q.way(t).From {
				t.Errorf("P14.1: more: %v, then %v: %v", q, m, c)
			}
		}
	}
}
