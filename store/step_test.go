package store_test

import (
	"fmt"
	"slices"
	"testing"

	"lagoon/api"
	"lagoon/disk"
	"lagoon/snap"
	"lagoon/store"
	"lagoon/ztree"
)

// write: one of a disk, as it can be done to any. adds: how many bytes it puts there.
type write struct {
	do   func(d *disk.Disk) api.Errno
	adds int
}

func cuts(name string, n int) write {
	return write{func(d *disk.Disk) api.Errno { return d.Cut(name, n) }, 0}
}

// lays are the writes that make a file durable.
func lays(name string, p []byte) []write {
	return []write{
		{func(d *disk.Disk) api.Errno { return d.Append(name, p) }, len(p)},
		{func(d *disk.Disk) api.Errno { return d.Sync(name) }, 0},
	}
}

// puts are the writes that put a manifest, where no other one has been left under way.
func puts(m api.Manifest) []write {
	return append(lays("manifest.new", manifestBytes(m)), write{func(d *disk.Disk) api.Errno { return d.Rename("manifest.new", "manifest") }, 0})
}

// logs are the writes that create a log.
func logs(number int64, segments [][]api.Txn) []write {
	var out []write
	for i, l := range segments {
		out = append(out, lays(fmt.Sprintf("log.%x.%x", number, i+1), frames(l))...)
	}
	return out
}

// removes are the writes that remove these files, rising by name.
func removes(names ...string) []write {
	var out []write
	for _, name := range slices.Sorted(slices.Values(names)) {
		out = append(out, write{func(d *disk.Disk) api.Errno { return d.Remove(name) }, 0})
	}
	return out
}

// step is what a call should do to a server that was started: its writes up to the one that makes it so, then those that clear; and the server from there on.
type step struct {
	what          string
	call          func(s *store.Store) api.Errno
	writes        []write
	clears        []write
	before, after server
}

// all are its writes in their order.
func (c step) all() []write { return slices.Concat(c.writes, c.clears) }

func (s server) accept(epoch uint32) step {
	after := s
	after.Accepted = epoch
	call := func(x *store.Store) api.Errno { return x.Accept(epoch) }
	return step{fmt.Sprintf("P12.2: Accept(%d)", epoch), call, puts(after.Manifest), nil, s, after}
}

func (s server) lead(epoch uint32) step {
	after := s
	after.Current = epoch
	call := func(x *store.Store) api.Errno { return x.Lead(epoch) }
	return step{fmt.Sprintf("P12.2: Lead(%d)", epoch), call, puts(after.Manifest), nil, s, after}
}

func (s server) append(t api.Txn) step {
	after := s
	after.segments = slices.Clone(s.segments)
	end := len(s.segments) - 1
	if len(s.segments[end]) >= s.size {
		after.segments = append(after.segments, nil)
		end++
	}
	after.segments[end] = append(slices.Clone(after.segments[end]), t)
	call := func(x *store.Store) api.Errno { return x.Append(t) }
	return step{fmt.Sprintf("P12.3: Append(%v)", t.Zxid), call, lays(fmt.Sprintf("log.%x.%x", s.Log, end+1), frames([]api.Txn{t})), nil, s, after}
}

func (s server) take(b api.Brought) step {
	n := max(s.Snap, s.Log) + 1
	after, l := s, []api.Txn{}
	after.Current, after.Log = b.Epoch, n
	var writes []write
	if b.Whole {
		after.Snap = n
		after.tree, _ = snap.Read(b.Image)
		writes = lays(fmt.Sprintf("snap.%x", n), b.Image)
	} else if b.Cut != s.tree.Last() {
		for _, x := range s.log() {
			l = append(l, x)
			if x.Zxid == b.Cut {
				break
			}
		}
	}
	after.segments = parts(s.size, append(l, b.Txns...))
	call := func(x *store.Store) api.Errno { return x.Take(b) }
	return step{fmt.Sprintf("P12.4: Take(whole %v, cut %v, %v)", b.Whole, b.Cut, zxids(b.Txns)), call, slices.Concat(writes, logs(n, after.segments), puts(after.Manifest)), s.gone(after), s, after}
}

func (s server) snapshot(t *ztree.Tree) step {
	n := max(s.Snap, s.Log) + 1
	after, l := s, s.log()
	after.Snap, after.Log, after.tree = n, n, t
	for len(l) > 0 && (l[0].Zxid.Epoch < t.Last().Epoch || l[0].Zxid.Epoch == t.Last().Epoch && l[0].Zxid.N <= t.Last().N) {
		l = l[1:]
	}
	after.segments = parts(s.size, l)
	call := func(x *store.Store) api.Errno { return x.Snapshot(t) }
	writes := slices.Concat(lays(fmt.Sprintf("snap.%x", n), snap.Write(t)), logs(n, after.segments), puts(after.Manifest))
	return step{fmt.Sprintf("P12.5: Snapshot(%v)", t.Last()), call, writes, s.gone(after), s, after}
}

// gone are the writes that remove what another server's manifest does not name any more.
func (s server) gone(after server) []write {
	stay := namesOf(after.files())
	return removes(slices.DeleteFunc(namesOf(s.files()), func(name string) bool { return slices.Contains(stay, name) })...)
}

// upTo is the tree of a server at a zxid that stands in its history.
func (s server) upTo(at api.Zxid) *ztree.Tree {
	t := s.tree.Twin()
	for _, x := range s.log() {
		if t.Last() != at {
			t.Apply(x)
		}
	}
	return t
}

// next is a transaction behind a zxid.
func next(at api.Zxid) api.Txn {
	if at.Epoch == 0 {
		at.Epoch = 1
	}
	at.N++
	return creates(at)
}

// steps are calls of each kind that a server (as it is when it was started) answers OK: at each edge of what they are handed.
func steps(s server) []step {
	first, second := next(s.last()), creates(api.Zxid{Epoch: s.last().Epoch + 1, N: 1})
	if s.last().Epoch == api.LastEpoch {
		second = next(first.Zxid)
	}
	out := []step{s.append(first), s.append(second)}
	if s.Accepted < api.LastEpoch {
		out = append(out, s.accept(s.Accepted+1), s.accept(api.LastEpoch))
	}
	if s.Accepted > s.Current {
		out = append(out, s.lead(s.Accepted))
	}
	for _, at := range s.stand() {
		out = append(out, s.take(api.Brought{Epoch: s.Accepted, Cut: at}))
		out = append(out, s.take(api.Brought{Epoch: s.Accepted, Cut: at, Txns: []api.Txn{second}}))
		if at != s.tree.Last() {
			out = append(out, s.snapshot(s.upTo(at)))
		}
	}
	for _, text := range []string{"", "1.1", "1.1 1.5 7.9"} {
		out = append(out, s.take(api.Brought{Epoch: s.Accepted, Whole: true, Image: snap.Write(treeOf(text))}))
		out = append(out, s.take(api.Brought{Epoch: s.Accepted, Whole: true, Image: snap.Write(treeOf(text)), Txns: txns("8.1 8.2 9.1")}))
	}
	return out
}

// everyStep calls f with each call of each server, which was started ahead of it.
func everyStep(f func(c step)) {
	for name, s := range servers() {
		for _, c := range steps(s.booted()) {
			c.what += ", " + name
			f(c)
		}
	}
}

// begun is the disk and the store of a step's server, on a disk of that room at least.
func (c step) begun(t *testing.T, room int) (*disk.Disk, *store.Store) {
	t.Helper()
	was := c.before
	was.Boot--
	d := roomOf(t, room, was.files()...)
	return d, opened(t, d, was.size)
}

// TestSteps: what each call answers, tells, writes; what a later Open finds.
func TestSteps(t *testing.T) {
	kinds := map[string]int{}
	everyStep(func(c step) {
		kinds[c.what[:5]]++
		d, s := c.begun(t, api.MaxRoom)
		tells(t, c.what+", ahead", s, c.before)
		holds(t, c.what+", ahead", d, c.before.files()...)
		n := d.Writes()
		answers(t, c.what, c.call(s), api.OK)
		counted(t, c.what, d, n+len(c.all()))
		tells(t, c.what, s, c.after)
		holds(t, c.what, d, c.after.files()...)
		finds(t, c.what, d, c.after)
	})
	for _, p := range []string{"P12.2", "P12.3", "P12.4", "P12.5"} {
		if kinds[p] < 9 {
			t.Errorf("the test's own calls: too few of %s: %v", p, kinds)
		}
	}
}

// TestStepsGoOn: behind each call each other one that may be is done.
func TestStepsGoOn(t *testing.T) {
	everyStep(func(c step) {
		for _, b := range steps(c.after) {
			d, s := c.begun(t, api.MaxRoom)
			answers(t, c.what, c.call(s), api.OK)
			answers(t, c.what+", then "+b.what, b.call(s), api.OK)
			tells(t, c.what+", then "+b.what, s, b.after)
			holds(t, c.what+", then "+b.what, d, b.after.files()...)
		}
	})
}
