package peer_test

import (
	"math/rand/v2"
	"slices"
	"testing"

	"lagoon/api"
	"lagoon/txn"
	"lagoon/ztree"
)

// judge looks at a whole run of servers that send what they send, whatever the network and the power do: that what is promised of the whole holds in it.
type judge struct {
	t        *testing.T
	w        *world
	proposed map[api.Zxid]api.Txn
	order    []api.Zxid // that was delivered, by whomever
	results  map[api.Zxid]api.Result
	tree     *ztree.Tree // of all that
	leaders  map[uint32]int8
	initial  map[uint32][]api.Zxid
	fixed    map[[2]int8]api.Fact // by leader and follower: the last one
	seen     []lastSeen
	ups      int
	tooks    int
}

// lastSeen is what was last seen of a server.
type lastSeen struct {
	view      api.View
	history   []api.Zxid
	delivered int // how many of the order
	answered  map[int64]bool
}

func newJudge(t *testing.T, w *world) *judge {
	j := &judge{t: t, w: w, proposed: map[api.Zxid]api.Txn{}, results: map[api.Zxid]api.Result{}, tree: ztree.New(), leaders: map[uint32]int8{}, initial: map[uint32][]api.Zxid{}, fixed: map[[2]int8]api.Fact{}}
	j.seen = make([]lastSeen, len(w.all))
	w.told = j.hears
	return j
}

// whole is all of a history: what is under a snapshot was delivered by somebody.
func (j *judge) whole(snap api.Zxid, log []api.Txn) []api.Zxid {
	j.t.Helper()
	out := slices.Clone(j.order[:j.place(snap)])
	for _, x := range log {
		if !txn.Same(x, j.proposed[x.Zxid]) {
			j.t.Fatalf("W2: a history has %+v, proposed was %+v", x, j.proposed[x.Zxid])
		}
		out = append(out, x.Zxid)
	}
	return out
}

// place is how many of the order are up to z, which stands in it, or is zero.
func (j *judge) place(z api.Zxid) int {
	j.t.Helper()
	if z == (api.Zxid{}) {
		return 0
	}
	i := slices.Index(j.order, z)
	if i < 0 {
		j.t.Fatalf("W2: %v was delivered by nobody: %v", z, j.order)
	}
	return i + 1
}

func (j *judge) hears(n int8, o api.Output, e api.Errno) {
	for _, f := range o.Facts {
		j.fact(n, f)
	}
	if !j.w.all[n].s.Up() {
		return
	}
	had := &j.seen[n]
	v := follows(j.t, j.w, n, had.view)
	had.view, had.delivered, had.history = v, j.place(v.Delivered), j.whole(v.Durable.Snap, v.Log)
}

func (j *judge) fact(n int8, f api.Fact) {
	had := &j.seen[n]
	switch f.Kind {
	case api.FactUpAgain:
		j.startsAgain(n, f)
	case api.FactProposed:
		if _, is := j.proposed[f.Txn.Zxid]; is || j.leaders[f.Txn.Zxid.Epoch] != n {
			j.t.Fatalf("W2: %v is proposed once more, or by %d, which does not lead", f.Txn.Zxid, n)
		}
		j.proposed[f.Txn.Zxid] = f.Txn
	case api.FactDelivered:
		j.delivers(n, f)
	case api.FactInitial:
		j.initial[f.Epoch] = j.whole(f.Snap, f.Log)
	case api.FactEstablished:
		if _, is := j.leaders[f.Epoch]; is {
			j.t.Fatalf("W2: the epoch %d is established by %d, too", f.Epoch, n)
		}
		j.leaders[f.Epoch] = n
		for _, z := range j.order {
			j.stands(z, f.Epoch)
		}
	case api.FactFixed:
		j.fixed[[2]int8{n, f.Other}] = f
	case api.FactTook:
		j.tooks++
		fixed := j.fixed[[2]int8{f.Other, n}]
		if fixed.Epoch != f.Epoch || fixed.Zxid != f.Zxid || !slices.Equal(j.whole(f.Snap, f.Log), j.whole(fixed.Snap, fixed.Log)) {
			j.t.Fatalf("W1: server %d took %+v, fixed was %+v", n, f, fixed)
		}
		had.delivered = max(had.delivered, j.place(f.Snap))
	case api.FactUp:
		j.getsUp(n, f)
	case api.FactAnswered:
		j.answers(n, f)
	}
}

// stands looks that what was delivered of an elder epoch stands in the initial history of one that is established.
func (j *judge) stands(z api.Zxid, epoch uint32) {
	if z.Epoch < epoch && !slices.Contains(j.initial[epoch], z) {
		j.t.Fatalf("W2: %v is delivered, but stands not in the initial history of %d: %v", z, epoch, j.initial[epoch])
	}
}

func (j *judge) delivers(n int8, f api.Fact) {
	had, z := &j.seen[n], f.Txn.Zxid
	if had.delivered == len(j.order) {
		j.order = append(j.order, z)
		j.results[z], _ = j.tree.Apply(f.Txn)
		for epoch := range j.leaders {
			j.stands(z, epoch)
		}
	}
	if j.order[had.delivered] != z || !txn.Same(f.Txn, j.proposed[z]) {
		j.t.Fatalf("W2: server %d delivers %+v behind %v", n, f.Txn, j.order[:had.delivered])
	}
	if !sameResult(f.Result, j.results[z]) {
		j.t.Fatalf("W4: server %d delivers %v with %+v, not %+v", n, z, f.Result, j.results[z])
	}
	had.delivered++
}

// startsAgain looks that the history is what it was ahead of the change that was under way, or behind it.
func (j *judge) startsAgain(n int8, f api.Fact) {
	had := &j.seen[n]
	v := j.w.view(n)
	now := j.whole(f.Snap, v.Log)
	longer := len(now) >= len(had.history) && slices.Equal(now[:len(had.history)], had.history)
	taken := false
	for at, fixed := range j.fixed {
		taken = taken || at[1] == n && fixed.Epoch == v.Durable.Current && slices.Equal(now, j.whole(fixed.Snap, fixed.Log))
	}
	if !longer && !taken {
		j.t.Fatalf("W3: server %d starts again with %v, had %v", n, now, had.history)
	}
	*had = lastSeen{view: had.view, delivered: j.place(f.Snap), answered: map[int64]bool{}}
}

func (j *judge) getsUp(n int8, f api.Fact) {
	j.ups++
	tree := ztree.New()
	for _, z := range j.order[:j.place(f.Zxid)] {
		tree.Apply(j.proposed[z])
	}
	if s := j.w.all[n].s; s.Up() && (!ztree.Same(tree, s.Tree()) || s.View().Delivered != f.Zxid || !s.View().Serves) {
		j.t.Fatalf("W1: server %d is up, but its tree is not what its history makes of the empty one", n)
	}
}

func (j *judge) answers(n int8, f api.Fact) {
	had := &j.seen[n]
	if had.answered[f.Number] {
		j.t.Fatalf("P24.1: server %d answers %d once more", n, f.Number)
	}
	had.answered[f.Number] = true
	if f.Result.Err == api.ErrLooking {
		return
	}
	z := j.order[had.delivered-1]
	if x := j.proposed[z]; x.From.Server != n || x.From.Number != f.Number || !sameResult(f.Result, j.results[z]) {
		j.t.Fatalf("W4: server %d answers %+v behind %+v", n, f, x)
	}
}

// least leaves of all servers a least quorum.
func least(g *rand.Rand, c api.Config) []int8 {
	var out []int8
	for n := range c.Weights {
		out = append(out, int8(n))
	}
	for _, i := range g.Perm(len(out)) {
		without := slices.DeleteFunc(slices.Clone(out), func(n int8) bool { return n == int8(i) })
		if isQuorum(c, without) {
			out = without
		}
	}
	return out
}

// goesOn lets a least quorum recover, as W6 says it, and nothing else happen.
func (j *judge) goesOn(g *rand.Rand) {
	w := j.w
	quorum := least(g, w.c)
	best := quorum[0]
	w.net = nil
	for _, n := range quorum {
		if !w.all[n].s.Up() {
			w.off(n)
			w.starts(n)
		}
		w.arm(n, 1<<30)
		a, b := w.view(n).Durable, w.view(best).Durable
		if a.Current > b.Current || a.Current == b.Current && txn.Compare(a.Last, b.Last) > 0 {
			best = n
		}
	}
	w.follow(best, best)
	for _, n := range quorum {
		if n != best {
			w.follow(n, best)
		}
	}
	w.settle()
	l := w.view(best)
	for _, n := range quorum {
		if v := w.view(n); !v.Serves || v.Delivered != l.Durable.Last || v.Durable.Last != l.Durable.Last || v.Digest != l.Digest {
			j.t.Fatalf("W6: %v of %v: server %d: %+v, the leader %d: %+v", quorum, w.c.Weights, n, v, best, l)
		}
	}
}

// TestWhole: what is promised of the whole, in runs whose messages are lost, come twice and overtake one another, whose servers lose their power and are told whom to follow by chance; then they go on.
func TestWhole(t *testing.T) {
	ups, tooks, delivered := 0, 0, 0
	for i, c := range configs() {
		c.LastEpoch, c.LastCounter = api.LastEpoch, 1<<31
		for run := range uint64(25) {
			w := newWorld(t, c, 100000)
			j := newJudge(t, w)
			for n := range w.all {
				w.starts(int8(n))
			}
			g := &chance{Rand: seeded(uint64(i)*1000 + run + 77), w: w, cuts: run%3 > 0}
			for k := range 300 {
				if k%60 == 0 {
					g.elect()
				}
				g.event()
			}
			j.goesOn(g.Rand)
			ups, tooks, delivered = ups+j.ups, tooks+j.tooks, delivered+len(j.order)
		}
	}
	if ups < 500 || tooks < 500 || delivered < 3000 {
		t.Errorf("just %d were brought up, %d got up, %d were delivered", tooks, ups, delivered)
	}
	t.Log(tooks, ups, delivered)
}
