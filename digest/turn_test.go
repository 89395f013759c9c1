package digest_test

import (
	"math"
	"math/rand/v2"
	"slices"
	"testing"

	"lagoon/api"
	"lagoon/digest"
	"lagoon/ztree"
)

// nothing is a node whose number is 0.
func nothing() api.Node {
	return api.Node{Stat: api.Stat{Owner: -6568034290783275017}, Next: 1534289829}
}

// TestTurnExamples: the second example.
func TestTurnExamples(t *testing.T) {
	none := [][]api.Node{nil, {}, make([]api.Node, 0, 4)}
	for _, a := range none {
		for _, b := range none {
			for _, d := range []uint64{0, 1, 5, 1 << 63, math.MaxUint64} {
				if h := digest.Turn(d, a, b); h != d {
					t.Errorf("P8.3: Turn(%d) by nothing: %d", d, h)
				}
			}
			for _, n := range []api.Node{{}, whole(), nothing()} {
				l, h := []api.Node{n}, number(nodeBytes(n))
				if x := digest.Turn(0, l, l); x != 0 {
					t.Errorf("P8.3: Turn(0, {n}, {n}): %d", x)
				}
				if x := digest.Turn(0, a, l); x != h || x != digest.Node(n) {
					t.Errorf("P8.3: Turn(0, {}, {n}): %d, not %d", x, h)
				}
				if x := digest.Turn(0, l, b); x != round(0, []uint64{h}, nil) || x != math.MaxUint64-h+1 {
					t.Errorf("P8.3: Turn(0, {n}, {}): %d, with Node(n) %d", x, h)
				}
			}
		}
	}
}

// TestNumberNought: a node with the number 0 is no difference, on either side.
func TestNumberNought(t *testing.T) {
	n := nothing()
	if h := digest.Node(n); h != 0 || number(nodeBytes(n)) != 0 {
		t.Fatalf("P8.1: a node whose bytes have the number 0: %X", h)
	}
	l := []api.Node{n}
	for _, d := range []uint64{0, 1, math.MaxUint64} {
		for what, h := range map[string]uint64{"gone": digest.Turn(d, l, nil), "come": digest.Turn(d, nil, l), "both": digest.Turn(d, l, l)} {
			if h != d {
				t.Errorf("P8.3: Turn(%d), %s with the number 0: %d", d, what, h)
			}
		}
	}
}

func anyNodes(g *rand.Rand, most int) []api.Node {
	var l []api.Node
	for range g.IntN(most + 1) {
		l = append(l, anyNode(g))
	}
	return l
}

// anyNumber leans to those where a sum goes round.
func anyNumber(g *rand.Rand) uint64 {
	edges := []uint64{0, 1, 1<<63 - 1, 1 << 63, math.MaxUint64}
	if g.IntN(2) == 0 {
		return edges[g.IntN(len(edges))]
	}
	return g.Uint64()
}

// TestTurn: any lists, there and back, and in any order.
func TestTurn(t *testing.T) {
	g := rand.New(rand.NewPCG(8, 3))
	shuffled := func(l []api.Node) []api.Node {
		l = slices.Clone(l)
		g.Shuffle(len(l), func(i, k int) { l[i], l[k] = l[k], l[i] })
		return l
	}
	for range 3000 {
		d, gone, come := anyNumber(g), anyNodes(g, 5), anyNodes(g, 5)
		if g.IntN(3) == 0 { // the same nodes on both sides, and some of them several times
			come = append(come, gone...)
			come = append(come, come...)
		}
		h, want := digest.Turn(d, gone, come), round(d, nodeNumbers(gone), nodeNumbers(come))
		if h != want {
			t.Fatalf("P8.3: Turn(%d, %+v, %+v): %d, not %d", d, gone, come, h, want)
		}
		if back := digest.Turn(h, come, gone); back != d {
			t.Fatalf("P8.3: there and back: %d, not %d", back, d)
		}
		if other := digest.Turn(d, shuffled(gone), shuffled(come)); other != h {
			t.Fatalf("P8.3: in another order: %d, not %d", other, h)
		}
		if steps := digest.Turn(digest.Turn(d, nil, come), gone, nil); steps != h {
			t.Fatalf("P8.3: one list behind the other: %d, not %d", steps, h)
		}
	}
}

// TestTurnSeveralTimes: a node counts as often as it stands in a list.
func TestTurnSeveralTimes(t *testing.T) {
	n, m := whole(), api.Node{Path: "/m"}
	h, k := digest.Node(n), digest.Node(m)
	for _, c := range []struct {
		gone, come []api.Node
		want       uint64
	}{
		{nil, []api.Node{n, n}, 2 * h},
		{nil, []api.Node{n, m, n}, 2*h + k},
		{[]api.Node{n, n, n}, nil, -(3 * h)},
		{[]api.Node{n}, []api.Node{n, n}, h},
		{[]api.Node{n, n}, []api.Node{n}, -h},
		{[]api.Node{n, m, n, m}, []api.Node{m, m, n, n}, 0},
		{[]api.Node{n, n}, []api.Node{m, m}, 2*k - 2*h},
	} {
		if x := digest.Turn(0, c.gone, c.come); x != c.want {
			t.Errorf("P8.3: Turn of %d gone and %d come: %d, not %d", len(c.gone), len(c.come), x, c.want)
		}
	}
	l := slices.Repeat([]api.Node{n, m}, 5000)
	if x := digest.Turn(9, nil, l); x != 9+5000*h+5000*k || digest.Turn(x, l, nil) != 9 {
		t.Errorf("P8.3: 10000 nodes: %d", x)
	}
}

// TestTurnGoesRound: the sum beyond 2^64 - 1, and below 0, by one and by much.
func TestTurnGoesRound(t *testing.T) {
	n := whole()
	h, l := digest.Node(n), []api.Node{n}
	for _, c := range []struct{ d, less, more uint64 }{
		{math.MaxUint64, math.MaxUint64 - h, h - 1},
		{math.MaxUint64 - h, math.MaxUint64 - h - h, math.MaxUint64},
		{math.MaxUint64 - h + 1, math.MaxUint64 - h - h + 1, 0},
		{h, 0, h + h},
		{h - 1, math.MaxUint64, h + h - 1},
		{0, math.MaxUint64 - h + 1, h},
	} {
		if x := digest.Turn(c.d, l, nil); x != c.less {
			t.Errorf("P8.3: %d less %d: %d, not %d", c.d, h, x, c.less)
		}
		if x := digest.Turn(c.d, nil, l); x != c.more {
			t.Errorf("P8.3: %d more %d: %d, not %d", c.d, h, x, c.more)
		}
	}
}

// TestTurnOfATree: what a request does to the nodes turns the tree's number.
func TestTurnOfATree(t *testing.T) {
	tree := road(t, open(9), create("/a", "x"), ephemeral("/e", first))
	d, before := digest.Of(tree), tree.Nodes()
	does(t, tree, create("/a/b", "y"))
	after := tree.Nodes() // "/" stays; "/a" is another one; "/a/b" is new; "/e" stays
	if h := digest.Turn(d, before[1:2], after[1:3]); h != digest.Of(tree) {
		t.Errorf("P8.3: by a Create: %X, not %X", h, digest.Of(tree))
	}
	if h := digest.Turn(d, before, after); h != digest.Of(tree) {
		t.Errorf("P8.3: by all nodes: %X, not %X", h, digest.Of(tree))
	}
	if h := digest.Turn(digest.Of(tree), after[1:3], before[1:2]); h != d {
		t.Errorf("P8.3: and back: %X, not %X", h, d)
	}
	root := ztree.New()
	if h := digest.Turn(digest.Of(root), root.Nodes(), nil); h != 0 {
		t.Errorf("P8.3: the new tree without its root: %X", h)
	}
}
