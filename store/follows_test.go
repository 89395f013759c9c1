package store_test

import (
	"fmt"
	"math/rand/v2"
	"slices"
	"testing"

	"lagoon/api"
	"lagoon/disk"
	"lagoon/snap"
	"lagoon/store"
)

// world is a store on its disk, and beside it what the chapter says of them: a server, and a disk of its own on which each write is done one by one.
type world struct {
	g     *rand.Rand
	room  int
	d     *disk.Disk
	s     *store.Store
	model server
	other *disk.Disk
	met   map[string]int
}

// play does writes to the other disk, up to the first that is refused; how many were done.
func (w *world) play(writes []write) (int, api.Errno) {
	for i, x := range writes {
		if e := x.do(w.other); e != api.OK {
			return i, e
		}
	}
	return len(writes), api.OK
}

// clears removes from the other disk what its server does not name.
func (w *world) clears() {
	own := namesOf(w.model.files())
	w.play(removes(slices.DeleteFunc(w.other.Names(), func(name string) bool { return slices.Contains(own, name) })...))
}

// does is what a call that is let through comes to by the chapter's words.
func (w *world) does(c step) api.Errno {
	_, e := w.play(c.writes)
	if e == api.OK {
		w.model = c.after
	}
	if c.what[:5] == "P12.4" || c.what[:5] == "P12.5" {
		w.clears()
	}
	return e
}

// anyTxns are some that rise behind a zxid, or nearly so; and what is wrong of them.
func (w *world) anyTxns(after api.Zxid, most int) ([]api.Txn, api.Errno) {
	var out []api.Txn
	at := after
	for range w.g.IntN(most + 1) {
		x := next(at)
		x.Zxid.N += uint32(w.g.IntN(3))
		if w.g.IntN(4) == 0 {
			x.Zxid = api.Zxid{Epoch: x.Zxid.Epoch + 1, N: 1}
		}
		out, at = append(out, x), x.Zxid
	}
	if len(out) == 0 {
		return out, api.OK
	}
	switch i := w.g.IntN(len(out)); w.g.IntN(14) {
	case 0:
		out[i].Req.Timeout = 1
		return out, api.ErrTxn
	case 1:
		out[i].Zxid = api.Zxid{}
		return out, api.ErrTxn
	case 2:
		if after != (api.Zxid{}) {
			out[i].Zxid = after
			return out, api.ErrOrder
		}
	}
	return out, api.OK
}

// anyStand is a zxid that stands in the history, or, at times, one that does not.
func (w *world) anyStand() (api.Zxid, api.Errno) {
	all := w.model.stand()
	at := all[w.g.IntN(len(all))]
	if w.g.IntN(8) == 0 {
		at.N += 1 + uint32(w.g.IntN(2))
	}
	if !slices.Contains(all, at) {
		return at, api.ErrBefore
	}
	return at, api.OK
}

func (w *world) anyTake() (step, api.Errno) {
	b := api.Brought{Epoch: w.model.Accepted, Whole: w.g.IntN(3) == 0}
	at, e := w.anyStand()
	if b.Whole {
		tree := treeOf("1.1")
		if e == api.OK {
			tree = w.model.upTo(at)
		}
		b.Image = snap.Write(tree)
		at, e = tree.Last(), api.OK
	} else {
		b.Cut = at
	}
	l, e2 := w.anyTxns(at, 7)
	b.Txns = l
	if e == api.OK {
		e = e2
	}
	if w.g.IntN(8) == 0 {
		b.Epoch, e = b.Epoch+1, api.ErrEpoch
	}
	if e != api.OK {
		return step{what: "P12.4: Take", call: func(s *store.Store) api.Errno { return s.Take(b) }}, e
	}
	return w.model.take(b), e
}

// anyCall is one, and what its arguments are refused with.
func (w *world) anyCall() (step, api.Errno) {
	m := w.model
	switch w.g.IntN(9) {
	case 0:
		epoch := m.Accepted + uint32(w.g.IntN(3))
		if epoch == m.Accepted {
			return m.accept(epoch), api.ErrEpoch
		}
		return m.accept(epoch), api.OK
	case 1:
		if m.Accepted == m.Current {
			return m.lead(m.Accepted), api.ErrEpoch
		}
		return m.lead(m.Accepted), api.OK
	case 2, 3, 4:
		l, e := w.anyTxns(m.last(), 1)
		if e != api.OK || len(l) == 0 {
			return step{what: "P12.3: Append", call: func(s *store.Store) api.Errno { return s.Append(slices.Concat(l, []api.Txn{{}})[0]) }}, max(e, api.ErrTxn)
		}
		return m.append(l[0]), api.OK
	case 5, 6:
		at, e := w.anyStand()
		tree := m.upTo(at)
		if e != api.OK {
			for tree.Last() == m.tree.Last() || slices.Contains(m.stand(), tree.Last()) {
				tree.Apply(next(tree.Last()))
			}
		}
		if tree.Last() == m.tree.Last() {
			return step{what: "P12.5: Snapshot, nothing to do", call: func(s *store.Store) api.Errno { return s.Snapshot(tree) }, after: m}, api.OK
		}
		return m.snapshot(tree), e
	}
	return w.anyTake()
}

// agree looks that disk and store are what the model has.
func (w *world) agree(t *testing.T, what string) {
	t.Helper()
	holds(t, what, w.d, w.other.Image()...)
	if w.d.On() != w.other.On() {
		t.Errorf("%s: power %v, not %v", what, w.d.On(), w.other.On())
	}
	tells(t, what, w.s, w.model)
	if got := w.s.Durable(); got.Current > got.Accepted {
		t.Errorf("%s: epochs %v", what, got)
	}
	if w.d.On() {
		holds(t, what+": just the files that the manifest names", w.d, w.model.files()...)
	}
}

// torn is the log's last segment as the disk has it: a transaction that was under way is there whole, or not.
func (w *world) torn(c step) []write {
	last := len(c.after.segments) - 1
	name := fmt.Sprintf("log.%x.%x", c.after.Log, last+1)
	n, all := length(w.other, name), len(frames(c.after.segments[last]))
	w.model = c.left(w.other, 1)
	kept := len(frames(w.model.segments[len(w.model.segments)-1]))
	if n == all || n == kept {
		return nil
	}
	return []write{cuts(name, kept)}
}

// restart takes the power, and opens the store with any size, until that is done: an Open may be cut short, too.
func (w *world) restart(t *testing.T, what string, c step, done int) {
	t.Helper()
	keep := make([]int, len(w.d.Names()))
	for i := range keep {
		keep[i] = []int{-1, 0, 1, 20, 37, 38, 60, 61, 62, 1000}[w.g.IntN(10)]
	}
	for _, d := range []*disk.Disk{w.d, w.other} {
		d.Off()
		d.Start(keep...)
	}
	w.model.size = 1 + w.g.IntN(4)
	c.before.size, c.after.size = w.model.size, w.model.size
	for w.s = nil; w.s == nil; {
		var writes []write
		if c.what[:5] == "P12.3" && done == 1 {
			writes = w.torn(c)
		}
		own := namesOf(w.model.files())
		others := slices.DeleteFunc(w.other.Names(), func(name string) bool { return slices.Contains(own, name) })
		writes = slices.Concat(writes, removes(others...), puts(w.model.booted().Manifest))
		if w.g.IntN(3) == 0 {
			n := w.g.IntN(len(writes) + 1)
			w.d.Arm(n)
			w.other.Arm(n)
		}
		s, e := store.Open(w.d, w.model.size)
		_, want := w.play(writes)
		answers(t, what+", Open", e, want)
		holds(t, what+", Open", w.d, w.other.Image()...)
		w.met[fmt.Sprintf("Open %d", e)]++
		if e == api.OK {
			w.s, w.model = s, w.model.booted()
		}
		if e == api.ErrFull || t.Failed() {
			return
		}
		if e == api.ErrDown {
			w.d.Start()
			w.other.Start()
		}
		w.d.Arm(-1)
		w.other.Arm(-1)
	}
}

// step does any call, which at times is cut short by a loss of power.
func (w *world) step(t *testing.T, what string) {
	t.Helper()
	c, want := w.anyCall()
	what += ", " + c.what
	before := w.other.Writes()
	armed := w.g.IntN(4) == 0
	if armed {
		n := w.g.IntN(len(c.all()) + 2)
		w.d.Arm(n)
		w.other.Arm(n)
	}
	was := w.model.durable()
	if want == api.OK {
		want = w.does(c)
	}
	answers(t, what, c.call(w.s), want)
	w.met[fmt.Sprintf("%s %d", c.what[:5], want)]++
	w.agree(t, what)
	if now := w.s.Durable(); now.Accepted < was.Accepted || now.Current < was.Current {
		t.Errorf("%s: an epoch has fallen: %v, %v", what, was, now)
	}
	if armed || w.g.IntN(20) == 0 {
		w.restart(t, what, c, w.other.Writes()-before)
		return
	}
}

// TestAnyCalls: any calls, any losses of power, disks of any room: the store tells, and the disk has, what the model does.
func TestAnyCalls(t *testing.T) {
	met := map[string]int{}
	for seed := range uint64(60) {
		w := &world{g: rand.New(rand.NewPCG(12, seed)), met: met}
		w.room = []int{400, 1000, 3000, api.MaxRoom}[w.g.IntN(4)]
		w.model = served(api.Manifest{Boot: 1, Log: 1}, "", "")
		w.d, w.other = roomOf(t, w.room), roomOf(t, w.room, w.model.files()...)
		w.s = opened(t, w.d, 2)
		for n := range 150 {
			w.step(t, fmt.Sprintf("any calls, seed %d, step %d", seed, n))
			if t.Failed() || w.s == nil {
				break
			}
		}
		if t.Failed() {
			return
		}
	}
	for _, what := range []string{
		"Open 0", "Open 23", "P12.2 0", "P12.2 23", "P12.2 121", "P12.3 0", "P12.3 21", "P12.3 23", "P12.3 40", "P12.3 100",
		"P12.4 0", "P12.4 21", "P12.4 23", "P12.4 40", "P12.4 100", "P12.4 121", "P12.4 122", "P12.5 0", "P12.5 21", "P12.5 23", "P12.5 122",
	} {
		if met[what] < 10 {
			t.Errorf("the test's own calls: too few of %s: %v", what, met)
		}
	}
}
