package stream_test

import (
	"bytes"
	"math"
	"math/rand/v2"
	"slices"
	"strconv"
	"testing"

	"lagoon/api"
	"lagoon/choose"
	"lagoon/snap"
	"lagoon/txn"
	"lagoon/ztree"
)

// TestLayer15LetsPass: each packet, with numbers and a place, at the ends of what may be too.
func TestLayer15LetsPass(t *testing.T) {
	last := z(api.LastEpoch, math.MaxUint32)
	questions := append(filled(),
		question{by(api.ByDiff, z(0, 0)), nil, nil, 1, 1},
		question{by(api.ByDiff, last), nil, nil, api.LastEpoch, 4096},
		question{by(api.ByTrunc, z(0, 0)), nil, nil, api.LastEpoch, 4096},
		question{by(api.ByTrunc, last), nil, nil, api.LastEpoch, 4096},
		question{by(api.ByTruncDiff, z(0, 0)), nil, logOf(z(1, 1), z(1, 2), last), api.LastEpoch, 1},
		question{by(api.BySnap, z(api.LastEpoch, math.MaxUint32-1)), counting(3 * 4096), logOf(last), api.LastEpoch, 4096},
		question{by(api.BySnap, z(0, 0)), counting(1), logOf(z(1, 1)), 1, 4096},
		question{by(api.BySnap, z(0, 0)), counting(4097), nil, 1, 1},
	)
	for _, q := range questions {
		passes(t, q.gives(t, name(q), q.packets()...))
	}
}

// anyAbove are so many zxids that rise above one, with gaps of any width.
func anyAbove(g *rand.Rand, x api.Zxid, n int) []api.Zxid {
	var out []api.Zxid
	for range n {
		if x.Epoch == 0 || g.IntN(3) == 0 { // with epoch 0 only zero may be
			x = z(x.Epoch+1+uint32(g.IntN(2)), 0)
		}
		x.N += 1 + uint32(g.IntN(3))
		out = append(out, x)
	}
	return out
}

// anyTxn does something to a tree, or fails there, which is a transaction all the same. Its From makes it another one than all before it.
func anyTxn(g *rand.Rand, x api.Zxid, number int64) api.Txn {
	p := "/" + string(rune('a'+g.IntN(5)))
	r := api.Request{Kind: api.Create, Path: p, Data: counting(g.IntN(40))}
	switch g.IntN(6) {
	case 0:
		r = api.Request{Kind: api.Delete, Path: p, Version: -1}
	case 1:
		r = api.Request{Kind: api.SetData, Path: p, Data: counting(g.IntN(96)), Version: -1}
	case 2:
		r = api.Request{Kind: api.Open, Timeout: 5}
	}
	return api.Txn{Zxid: x, From: api.Origin{Server: int8(g.IntN(7)), Boot: 1, Number: number}, Req: r}
}

func anyTxns(g *rand.Rand, first int64, l ...api.Zxid) []api.Txn {
	var out []api.Txn
	for i, x := range l {
		out = append(out, anyTxn(g, x, first+int64(i)))
	}
	return out
}

// lastOf is the last zxid of a history that begins at zero.
func lastOf(l []api.Txn) api.Zxid {
	if len(l) == 0 {
		return api.Zxid{}
	}
	return l[len(l)-1].Zxid
}

// upTo and behind take a history apart at a zxid.
func upTo(l []api.Txn, x api.Zxid) []api.Txn {
	return slices.DeleteFunc(slices.Clone(l), func(t api.Txn) bool { return above(t.Zxid, x) })
}

func behind(l []api.Txn, x api.Zxid) []api.Txn {
	return slices.DeleteFunc(slices.Clone(l), func(t api.Txn) bool { return !above(t.Zxid, x) })
}

func stands(l []api.Txn, x api.Zxid) bool {
	return x == api.Zxid{} || slices.ContainsFunc(l, func(t api.Txn) bool { return t.Zxid == x })
}

// treeOf is what transactions make of the empty tree.
func treeOf(l []api.Txn) *ztree.Tree {
	tree := ztree.New()
	for _, x := range l {
		tree.Apply(x)
	}
	return tree
}

// pair is a leader and a follower: their whole histories, and where the leader's snapshot and its tree stand in its.
type pair struct {
	leader, follower []api.Txn
	snap, delivered  api.Zxid
}

// anyPair has the same transactions up to each zxid that stands in both histories.
func anyPair(g *rand.Rand) pair {
	var w pair
	w.leader = anyTxns(g, 1, anyAbove(g, z(0, 0), g.IntN(12))...)
	snap := g.IntN(len(w.leader) + 1)
	if g.IntN(2) == 0 {
		snap = 0
	}
	delivered := snap + g.IntN(len(w.leader)-snap+1)
	w.snap, w.delivered = lastOf(w.leader[:snap]), lastOf(w.leader[:delivered])
	common := w.leader[:g.IntN(len(w.leader)+1)]
	own := slices.DeleteFunc(anyAbove(g, lastOf(common), g.IntN(4)), func(x api.Zxid) bool { return stands(w.leader, x) })
	w.follower = slices.Concat(common, anyTxns(g, 1000, own...))
	return w
}

// asked is what the leader asks Make, by the choice that it makes for the follower.
func (w pair) asked(t *testing.T, g *rand.Rand) question {
	t.Helper()
	image, log := snap.Write(treeOf(upTo(w.leader, w.delivered))), behind(w.leader, w.snap)
	c, e := choose.Way(lastOf(w.follower), w.snap, log, g.IntN(len(log)+1), len(image), g.Float64())
	if e != api.OK {
		t.Fatalf("choose.Way: %d", e)
	}
	q := question{c: c, epoch: max(lastOf(w.leader).Epoch, 1) + uint32(g.IntN(2)), chunk: 1 + g.IntN(200)}
	if c.Way == api.BySnap {
		q.c.From, q.image = w.delivered, image
	}
	q.l = behind(w.leader, q.c.From)
	return q
}

// taken is what becomes of the follower's history by these packets: cut, given up for the tree's, taken on.
func (w pair) taken(t *testing.T, l []api.Packet, epoch uint32) []api.Txn {
	t.Helper()
	history := slices.Clone(w.follower)
	tree := treeOf(nil)
	var image []byte
	for i, p := range l {
		switch p.Kind {
		case api.PTrunc:
			history = upTo(history, p.Zxid)
		case api.PChunk:
			if image = append(image, p.Bytes...); p.Final {
				copied, e := snap.Read(image)
				if e != api.OK {
					t.Fatalf("P16.1: the chunks are no tree: %d", e)
				}
				tree, history = copied, upTo(w.leader, copied.Last())
			}
		case api.PDiff:
			if p.Prev != lastOf(history) {
				t.Fatalf("P16.1: a Diff behind %v, with a history up to %v", p.Prev, lastOf(history))
			}
			history = append(history, p.Txn)
			tree.Apply(p.Txn)
		case api.PNewLeader:
			if i != len(l)-1 || p.Epoch != epoch || p.Zxid != lastOf(history) {
				t.Fatalf("P16.1: %+v at %d, with a history up to %v", p, i, lastOf(history))
			}
		}
	}
	if len(image) > 0 && !ztree.Same(tree, treeOf(w.leader)) {
		t.Fatalf("P16.1: behind the chunks and the Diffs the tree is another one")
	}
	return history
}

// TestBroughtUpIsTheSame: whichever way choose takes, where From stands in the follower's history too.
func TestBroughtUpIsTheSame(t *testing.T) {
	g := rand.New(rand.NewPCG(16, 1))
	held := map[int8]int{}
	for range 20000 {
		w := anyPair(g)
		q := w.asked(t, g)
		got := q.gives(t, name(q), q.packets()...)
		if q.c.Way != api.BySnap && !stands(w.follower, q.c.From) {
			continue
		}
		held[q.c.Way]++
		if h := w.taken(t, got, q.epoch); !slices.EqualFunc(h, w.leader, txn.Same) {
			t.Fatalf("P16.1: %v: the history is %v, not %v", q.c, h, w.leader)
		}
	}
	for way := api.ByDiff; way <= api.BySnap; way++ {
		if held[way] < 500 {
			t.Errorf("way %d was taken %d times alone", way, held[way])
		}
	}
}

// TestAnyQuestion: many of them, mostly right but for one thing, answered by the document's words.
func TestAnyQuestion(t *testing.T) {
	g := rand.New(rand.NewPCG(16, 2))
	answered := [2]int{}
	for i := range 20000 {
		w := anyPair(g)
		q := w.asked(t, g)
		q.c.Cached = g.IntN(2) == 0
		turnAny(g, &q)
		q.answered(t, "any question "+strconv.Itoa(i))
		if !q.mayBe() {
			answered[0]++
			continue
		}
		answered[1]++
		got, _ := q.make()
		passes(t, got)
		var whole []byte
		for _, p := range got {
			whole = append(whole, p.Bytes...)
		}
		if !bytes.Equal(whole, q.image) {
			t.Fatalf("P16.1: the chunks are other bytes than the image")
		}
	}
	if answered[0] < 3000 || answered[1] < 3000 {
		t.Errorf("%d were refused, %d answered", answered[0], answered[1])
	}
}

// turnAny turns a part of a question, or none.
func turnAny(g *rand.Rand, q *question) {
	numbers := []uint32{0, 1, 2, 3, 1 << 31, math.MaxUint32}
	number := func() uint32 { return numbers[g.IntN(len(numbers))] }
	if len(q.l) > 0 && g.IntN(3) == 0 {
		i := g.IntN(len(q.l))
		switch g.IntN(4) {
		case 0:
			q.l[i].Zxid = z(number(), number())
		case 1:
			q.l[i].From.Server = int8(g.IntN(256))
		case 2:
			q.l[i].Req.Session -= int64(g.IntN(2))
		case 3:
			q.l = slices.Delete(q.l, i, i+1)
		}
		return
	}
	switch g.IntN(10) {
	case 0:
		q.c.Way = int8(g.IntN(6))
	case 1:
		q.c.From = z(number(), number())
	case 2:
		q.epoch = number()
	case 3:
		q.chunk = g.IntN(5000) - 300
	case 4:
		q.image = counting(g.IntN(2))
	case 5:
		q.l = nil
	}
}
