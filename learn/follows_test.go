package learn_test

import (
	"math"
	"math/rand/v2"
	"slices"
	"testing"

	"lagoon/api"
	"lagoon/choose"
	"lagoon/disk"
	"lagoon/learn"
	"lagoon/snap"
	"lagoon/store"
	"lagoon/stream"
	"lagoon/txn"
	"lagoon/ztree"
)

// anyAbove are so many zxids that rise above one, with gaps of any width.
func anyAbove(g *rand.Rand, x api.Zxid, n int) []api.Zxid {
	var out []api.Zxid
	for range n {
		if x.Epoch == 0 || g.IntN(3) == 0 { // with epoch 0 only zero may be
			x = z(x.Epoch+1+uint32(g.IntN(2)), 0)
		}
		x.N += 1 + uint32(g.IntN(3))
		out = append(out, x)
	}
	return out
}

// anyTxns do something to a tree, or fail there, which is a transaction all the same. Their From makes them other ones than all before them.
func anyTxns(g *rand.Rand, first int64, l ...api.Zxid) []api.Txn {
	var out []api.Txn
	for i, x := range l {
		p := "/" + string(rune('a'+g.IntN(5)))
		r := api.Request{Kind: api.Create, Path: p, Data: make([]byte, g.IntN(40))}
		switch g.IntN(6) {
		case 0:
			r = api.Request{Kind: api.Delete, Path: p, Version: -1}
		case 1:
			r = api.Request{Kind: api.SetData, Path: p, Data: make([]byte, g.IntN(96)), Version: -1}
		case 2:
			r = api.Request{Kind: api.Open, Timeout: 5}
		}
		out = append(out, api.Txn{Zxid: x, From: api.Origin{Server: int8(g.IntN(7)), Boot: 1, Number: first + int64(i)}, Req: r})
	}
	return out
}

// lastOf is the last zxid of a history that begins at zero.
func lastOf(l []api.Txn) api.Zxid {
	if len(l) == 0 {
		return api.Zxid{}
	}
	return l[len(l)-1].Zxid
}

// upTo and behind take a history apart at a zxid.
func upTo(l []api.Txn, x api.Zxid) []api.Txn {
	return slices.DeleteFunc(slices.Clone(l), func(t api.Txn) bool { return above(t.Zxid, x) })
}

func behind(l []api.Txn, x api.Zxid) []api.Txn {
	return slices.DeleteFunc(slices.Clone(l), func(t api.Txn) bool { return !above(t.Zxid, x) })
}

func stands(l []api.Txn, x api.Zxid) bool {
	return x == api.Zxid{} || slices.ContainsFunc(l, func(t api.Txn) bool { return t.Zxid == x })
}

// pair is a leader and a follower: their whole histories, where their snapshots stand, and where the leader's tree does.
type pair struct {
	leader, follower []api.Txn
	snap, delivered  api.Zxid // the leader's
	own              api.Zxid // the follower's snapshot's
	epoch            uint32
}

// anyPair has the same transactions up to each zxid that stands in both histories.
func anyPair(g *rand.Rand) pair {
	var w pair
	w.leader = anyTxns(g, 1, anyAbove(g, z(0, 0), g.IntN(12))...)
	snap := g.IntN(len(w.leader) + 1)
	if g.IntN(2) == 0 {
		snap = 0
	}
	delivered := snap + g.IntN(len(w.leader)-snap+1)
	w.snap, w.delivered = lastOf(w.leader[:snap]), lastOf(w.leader[:delivered])
	common := w.leader[:g.IntN(len(w.leader)+1)]
	other := slices.DeleteFunc(anyAbove(g, lastOf(common), g.IntN(4)), func(x api.Zxid) bool { return stands(w.leader, x) })
	w.follower = slices.Concat(common, anyTxns(g, 1000, other...))
	w.own = lastOf(w.follower[:g.IntN(len(w.follower)+1)])
	if g.IntN(2) == 0 {
		w.own = api.Zxid{}
	}
	w.epoch = max(lastOf(w.leader).Epoch, lastOf(w.follower).Epoch, 1) + uint32(g.IntN(2))
	return w
}

// sent is what the leader sends by the choice that it makes for the follower, with numbers and places.
func (w pair) sent(t *testing.T, g *rand.Rand) (api.Choice, []api.Packet) {
	t.Helper()
	image, log := snap.Write(treeOf(upTo(w.leader, w.delivered))), behind(w.leader, w.snap)
	c, e := choose.Way(lastOf(w.follower), w.snap, log, g.IntN(len(log)+1), len(image), g.Float64())
	if e != api.OK {
		t.Fatalf("choose.Way: %d", e)
	}
	if c.Way == api.BySnap {
		c.From = w.delivered
	} else {
		image = nil
	}
	l, e := stream.Make(c, image, behind(w.leader, c.From), w.epoch, 1+g.IntN(200))
	if e != api.OK {
		t.Fatalf("stream.Make: %d", e)
	}
	for i := range l {
		l[i] = put(l[i])
		l[i].Place = int64(i)
	}
	return c, l
}

// learner is the follower's.
func (w pair) learner(t *testing.T) *pupil {
	t.Helper()
	return begun(t, w.epoch, w.own, behind(w.follower, w.own))
}

// has is what the follower has behind what was brought.
func (w pair) has(t *testing.T, b api.Brought) []api.Txn {
	t.Helper()
	history, from := upTo(w.follower, b.Cut), b.Cut
	if b.Whole {
		tree, e := snap.Read(b.Image)
		if e != api.OK || !ztree.Same(tree, treeOf(upTo(w.leader, w.delivered))) {
			t.Fatalf("P17.4: the image is not the leader's tree: %d", e)
		}
		history, from = upTo(w.leader, tree.Last()), tree.Last()
	}
	if !txn.Rises(from, b.Txns) {
		t.Fatalf("P17.4: the transactions do not rise from %v", from)
	}
	return slices.Concat(history, b.Txns)
}

// TestBroughtUpIsTheSame: what stream makes by choose's way is taken to the end, and the follower then has the leader's history; where From does not stand in its own the Trunc does not fit.
func TestBroughtUpIsTheSame(t *testing.T) {
	g := rand.New(rand.NewPCG(17, 1))
	held, none := map[int8]int{}, 0
	for range 20000 {
		w := anyPair(g)
		c, l := w.sent(t, g)
		u := w.learner(t)
		if c.Way != api.BySnap && !u.stands(c.From) {
			if c.Way == api.ByDiff || l[0].Kind != api.PTrunc {
				t.Fatalf("the follower's last does not stand in its history")
			}
			u.misfit(t, "From is not the follower's", l[0])
			none++
			continue
		}
		held[c.Way]++
		u.fit(t, "brought up", l...)
		b, _ := u.Brought()
		if h := w.has(t, b); b.Epoch != w.epoch || !slices.EqualFunc(h, w.leader, txn.Same) {
			t.Fatalf("P17.4: %v: the history is %v, not %v", c, h, w.leader)
		}
	}
	for way := api.ByDiff; way <= api.BySnap; way++ {
		if held[way] < 500 {
			t.Errorf("way %d was taken %d times alone", way, held[way])
		}
	}
	if none < 100 {
		t.Errorf("From did not stand there %d times alone", none)
	}
}

// TestOneLeftOut: behind a Diff that is left out the next packet does not fit, nor any behind that; with it all do.
func TestOneLeftOut(t *testing.T) {
	g := rand.New(rand.NewPCG(17, 2))
	held := map[int8]int{}
	for range 10000 {
		w := anyPair(g)
		c, l := w.sent(t, g)
		if c.Way != api.BySnap && !w.learner(t).stands(c.From) {
			continue
		}
		for i, p := range l {
			if p.Kind != api.PDiff {
				continue
			}
			held[c.Way]++
			u := w.learner(t).fit(t, "ahead of the gap", l[:i]...)
			u.misfit(t, "behind the gap", l[i+1:]...)
			u.fit(t, "without the gap", l[i:]...)
		}
	}
	for _, way := range []int8{api.ByDiff, api.ByTruncDiff, api.BySnap} {
		if held[way] < 500 {
			t.Errorf("of way %d one was left out %d times alone", way, held[way])
		}
	}
}

// TestStoreTakesIt: what is brought is what layer 12 takes, and its history is the leader's then.
func TestStoreTakesIt(t *testing.T) {
	g := rand.New(rand.NewPCG(17, 3))
	held := map[int8]int{}
	for range 1500 {
		w := anyPair(g)
		c, l := w.sent(t, g)
		u := w.learner(t)
		if c.Way != api.BySnap && !u.stands(c.From) {
			continue
		}
		held[c.Way]++
		b, _ := u.fit(t, "brought up", l...).Brought()
		s := w.store(t)
		if e := s.Take(b); e != api.OK {
			t.Fatalf("P17.4: layer 12 does not take it: %d: %+v", e, b)
		}
		k := s.Durable()
		if k.Current != w.epoch || k.Last != lastOf(w.leader) || k.Last != u.Last() || !slices.EqualFunc(s.Log(), behind(w.leader, k.Snap), txn.Same) {
			t.Fatalf("P17.4: the store has %+v, %v, not %v", k, s.Log(), w.leader)
		}
	}
	for way := api.ByDiff; way <= api.BySnap; way++ {
		if held[way] < 20 {
			t.Errorf("way %d was taken %d times alone", way, held[way])
		}
	}
}

// store is the follower's, with its history, and the leader's epoch accepted.
func (w pair) store(t *testing.T) *store.Store {
	t.Helper()
	d, e := disk.New(1 << 20)
	if e != api.OK {
		t.Fatalf("disk.New: %d", e)
	}
	s, e := store.Open(d, 4)
	if e != api.OK {
		t.Fatalf("store.Open: %d", e)
	}
	errs := []api.Errno{s.Accept(w.epoch)}
	for _, x := range w.follower {
		errs = append(errs, s.Append(x))
	}
	if w.own != (api.Zxid{}) {
		errs = append(errs, s.Snapshot(treeOf(upTo(w.follower, w.own))))
	}
	for _, e := range errs {
		if e != api.OK {
			t.Fatalf("the follower's store: %v", errs)
		}
	}
	return s
}

// TestAnyPackets: many of them, from a leader's sequence with some lost, doubled, turned round, spoilt, or another leader's, each answered by the chapter's words.
func TestAnyPackets(t *testing.T) {
	g := rand.New(rand.NewPCG(17, 4))
	taken, refused, done := 0, 0, 0
	for range 5000 {
		w := anyPair(g)
		_, l := w.sent(t, g)
		if g.IntN(3) == 0 {
			_, other := anyPair(g).sent(t, g)
			l = append(l, other...)
		}
		for range g.IntN(4) {
			l = mixed(g, l)
		}
		u := w.learner(t)
		for _, p := range l {
			if g.IntN(8) == 0 {
				p = turned(g, p)
			}
			if u.takes(t, "any packets", p) {
				taken++
			} else {
				refused++
			}
		}
		if u.done() {
			done++
		}
	}
	if taken < 3000 || refused < 3000 || done < 500 {
		t.Errorf("%d were taken, %d refused, %d Learners done", taken, refused, done)
	}
}

// mixed is a sequence with one packet lost, doubled, or somewhere else.
func mixed(g *rand.Rand, l []api.Packet) []api.Packet {
	if len(l) == 0 {
		return l
	}
	out := slices.Clone(l)
	i := g.IntN(len(out))
	p := out[i]
	switch g.IntN(3) {
	case 0:
		return slices.Delete(out, i, i+1)
	case 1:
		return slices.Insert(out, g.IntN(len(out)+1), p)
	default:
		out = slices.Delete(out, i, i+1)
		return slices.Insert(out, g.IntN(len(out)+1), p)
	}
}

// turned is a packet with one thing of it turned.
func turned(g *rand.Rand, p api.Packet) api.Packet {
	numbers := []uint32{0, 1, 2, 3, api.LastEpoch, 1 << 31, math.MaxUint32}
	number := func() uint32 { return numbers[g.IntN(len(numbers))] }
	switch g.IntN(9) {
	case 0:
		p.Kind = int8(g.IntN(17))
	case 1:
		p.Zxid = z(number(), number())
	case 2:
		p.Prev = z(number(), number())
	case 3:
		p.Epoch = number()
	case 4:
		p.Final = !p.Final
	case 5:
		p.Txn.Zxid = z(number(), number())
	case 6:
		p.Place = int64(g.IntN(9)) - 2
	case 7:
		if len(p.Bytes) > 0 {
			p.Bytes = slices.Clone(p.Bytes)
			p.Bytes[g.IntN(len(p.Bytes))] ^= byte(1 + g.IntN(255))
		}
	case 8:
		p.Conn.Try, p.Lead.Boot = number(), number()
	}
	return p
}

// TestAgain: the same packets bring the same, however often.
func TestAgain(t *testing.T) {
	g := rand.New(rand.NewPCG(17, 5))
	for range 200 {
		w := anyPair(g)
		_, l := w.sent(t, g)
		var first api.Brought
		for i := range 3 {
			n, e := learn.New(w.epoch, w.own, behind(w.follower, w.own))
			if e != api.OK {
				t.Fatalf("P17.1: %d", e)
			}
			for _, p := range l {
				n.Take(p)
			}
			b, _ := n.Brought()
			if i == 0 {
				first = b
			} else if !sameBrought(b, first) {
				t.Fatalf("R6: %+v, not %+v", b, first)
			}
		}
	}
}
