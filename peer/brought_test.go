package peer_test

import (
	"fmt"
	"math"
	"slices"
	"testing"

	"lagoon/api"
	"lagoon/ztree"
)

// apart is a world of three in which the server 2 has lost proposals of its own behind 1.2 (so many), and 0 and 1 have gone on with so many of epoch 2; 0 has made a snapshot behind so many of all (-1: none).
func apart(t *testing.T, c api.Config, lost, more, snap int) *world {
	t.Helper()
	w := begun(t, c)
	w.follow(2, 2)
	w.follow(0, 2)
	w.follow(1, 2)
	w.settle()
	done := 0
	snaps := func() {
		if done == snap {
			w.snap(0)
		}
		done++
	}
	snaps()
	for _, p := range []string{"/a", "/b"} {
		w.write(2, create(p))
		w.settle()
		snaps()
	}
	for i := range lost {
		w.write(2, create(fmt.Sprintf("/lost%d", i)))
	}
	w.net = nil
	w.gives(2)
	w.follow(0, 0)
	w.follow(1, 0)
	w.settle()
	for i := range more {
		w.write(0, rich(fmt.Sprintf("/more%d", i)))
		w.settle()
		snaps()
	}
	return w
}

// sameAs looks that a server has the leader's history, current epoch and tree.
func sameAs(t *testing.T, what string, w *world, n, leader int8) {
	t.Helper()
	v, l := w.view(n), w.view(leader)
	if !v.Serves || v.Durable.Last != l.Durable.Last || v.Delivered != l.Delivered || v.Digest != l.Digest || v.Durable.Current != l.Durable.Current || !ztree.Same(w.all[n].s.Tree(), w.all[leader].s.Tree()) {
		t.Fatalf("W1: %s: server %d: %+v, the leader %+v", what, n, v, l)
	}
	a, b := v.Log, l.Log
	for len(a) > 0 && len(b) > 0 { // one of them may begin ahead of the other
		if !sameLog(a[len(a)-1:], b[len(b)-1:]) {
			t.Fatalf("W1: %s: server %d has %+v, the leader %+v", what, n, a[len(a)-1], b[len(b)-1])
		}
		a, b = a[:len(a)-1], b[:len(b)-1]
	}
}

// TestBroughtUp: in each of the four ways, with any measures, of any two histories that part.
func TestBroughtUp(t *testing.T) {
	ways := map[int8]int{}
	measures := 0
	for _, cache := range []int{0, 1, 2, 64} {
		for _, factor := range []float64{0, 0.5, 4, math.Inf(1), math.NaN(), -1} {
			for lost := range 3 {
				for more := range 4 {
					for snap := -1; snap <= more+2; snap += 2 {
						measures++
						c := config(1, 1, 1)
						c.Cache, c.Factor, c.Chunk, c.Segment = cache, factor, []int{1, 50, 4096}[measures%3], 2
						w := apart(t, c, lost, more, snap)
						what := fmt.Sprintf("Cache %d, Factor %v, Chunk %d, %d lost, %d more, snapshot behind %d", cache, factor, c.Chunk, lost, more, snap)
						ways[bringsUp(t, what, w)]++
					}
				}
			}
		}
	}
	for way := int8(1); way <= 4; way++ {
		if ways[way] < 20 {
			t.Errorf("the way %d was gone %d times", way, ways[way])
		}
	}
}

// bringsUp lets 2 follow 0, and looks that what was fixed is what it took; the way that was gone.
func bringsUp(t *testing.T, what string, w *world) int8 {
	t.Helper()
	var fixed, took api.Fact
	delivered, chunks := w.view(2).Delivered, 0
	w.told = func(n int8, o api.Output, _ api.Errno) {
		for _, f := range o.Facts {
			switch {
			case f.Kind == api.FactFixed:
				fixed = f
			case f.Kind == api.FactTook:
				took = f
				if v := w.view(2); f.Way != 0 || v.Serves || fixed.Way != api.BySnap && v.Delivered != delivered {
					t.Errorf("P24.6: %s: behind NewLeader: %+v", what, v)
				}
			}
		}
		for _, x := range packets(t, o) {
			if x.p.Kind == api.PChunk {
				chunks++
				if len(x.p.Bytes) > w.c.Chunk {
					t.Errorf("P24.5: %s: a chunk of %d bytes", what, len(x.p.Bytes))
				}
			}
		}
	}
	w.follow(2, 0)
	w.settle()
	w.told = nil
	l := w.view(0)
	if fixed.Other != 2 || fixed.Epoch != 2 || fixed.Zxid != l.Durable.Last || fixed.Snap != l.Durable.Snap || !sameLog(fixed.Log, l.Log) || (fixed.Way == api.BySnap) != (chunks > 0) {
		t.Fatalf("P24.5: %s: fixed %+v; %d chunks", what, fixed, chunks)
	}
	v := w.view(2)
	if took.Other != 0 || took.Epoch != 2 || took.Zxid != fixed.Zxid || took.Snap != v.Durable.Snap || !sameLog(took.Log, v.Log) {
		t.Fatalf("P24.6: %s: took %+v, fixed %+v, has %+v", what, took, fixed, v)
	}
	if fixed.Way == api.BySnap && took.Snap != l.Delivered {
		t.Fatalf("P24.5: %s: the copy is up to %v, not up to %v", what, took.Snap, l.Delivered)
	}
	sameAs(t, what, w, 2, 0)
	w.write(2, create("/behind"))
	w.settle()
	sameAs(t, what+", and a write", w, 2, 0)
	return fixed.Way
}

// TestBroughtUpWithProposals: what a leader has proposed, but not committed, is of the history that it fixes; it is committed by that, and goes as it is proposed from then on.
func TestBroughtUpWithProposals(t *testing.T) {
	for _, factor := range []float64{100, -1} {
		for _, cache := range []int{0, 64} {
			c := config(1, 1, 1)
			c.Factor, c.Cache = factor, cache
			w := led(t, c, 1)
			w.write(0, create("/a"))
			w.settle()
			w.follow(1, 1) // it is away
			w.net = nil
			w.write(0, create("/b"))
			w.write(0, create("/c"))
			w.net = nil
			if v := w.view(0); v.Delivered != z(1, 1) || v.Durable.Last != z(1, 3) {
				t.Fatalf("%+v", v)
			}
			w.follow(2, 0)
			w.until(api.PAckEpoch)
			o, _ := w.take(0)
			if o.Facts[0].Zxid != z(1, 3) || (o.Facts[0].Way == api.BySnap) != (factor < 0 && cache == 0) {
				t.Errorf("P24.5: %s", outputText(o))
			}
			o = w.does(0, api.Input{Kind: api.InWrite, Req: create("/d")}, api.FactProposed) // it stands at 3
			if x := packets(t, o); len(x) != 2 || x[1].to != 2 || x[1].p.Kind != api.PPropose || x[1].p.Prev != z(1, 3) {
				t.Errorf("P24.5: %s", outputText(o))
			}
			w.settle()
			sameAs(t, "with proposals", w, 2, 0)
			if v := w.view(2); v.Delivered != z(1, 4) {
				t.Errorf("%+v", v)
			}
		}
	}
}

// TestCopyBelow: a whole copy whose zxid is not above what the follower has delivered leaves its tree as it is.
func TestCopyBelow(t *testing.T) {
	c := config(1, 1, 1)
	c.Factor, c.Cache = -1, 0
	w := led(t, c, 1, 2)
	w.write(0, create("/a"))
	w.settle()
	w.write(0, create("/b"))
	for _, x := range slices.Clone(w.net) {
		w.hears(x.to, x.from, x.bytes)
	}
	w.net = nil
	w.follow(2, 0) // 0 has delivered 1.1 alone, 2 too; it is brought a copy up to 1.1
	w.until(api.PNewLeader)
	had := w.view(2)
	o, _ := w.take(0)
	if v := w.view(2); !slices.Equal(kindsOf(o.Facts), []int8{api.FactTook}) || v.Delivered != had.Delivered || v.Committed != had.Committed {
		t.Errorf("P24.6: %s", outputText(o))
	}
	w.settle()
	sameAs(t, "a copy below", w, 2, 0)
}

// TestCopyAbove: one that is above it is its tree, and committed and delivered, from NewLeader on: nothing of it is told as delivered.
func TestCopyAbove(t *testing.T) {
	c := config(1, 1, 1)
	c.Factor, c.Cache, c.Chunk = -1, 0, 30
	w := led(t, c, 1)
	w.write(0, create("/a"))
	w.write(0, create("/b"))
	w.settle()
	w.follow(2, 0)
	w.until(api.PNewLeader)
	if v := w.view(2); v.Delivered != z(0, 0) {
		t.Fatalf("%+v", v)
	}
	w.take(0)
	if v := w.view(2); v.Delivered != z(1, 2) || v.Committed != z(1, 2) || v.Serves || v.Digest != w.view(0).Digest || len(v.Log) != 0 || v.Durable.Snap != z(1, 2) {
		t.Fatalf("P24.6: %+v", v)
	}
	w.told = func(n int8, o api.Output, _ api.Errno) {
		for _, f := range o.Facts {
			if f.Kind == api.FactDelivered || f.Kind == api.FactUp && !sameFact(f, api.Fact{Kind: api.FactUp, Server: 2, Epoch: 1, Zxid: z(1, 2)}) {
				t.Errorf("P24.6: %+v", f)
			}
		}
	}
	w.settle()
	sameAs(t, "a copy above", w, 2, 0)
}
