package store_test

import (
	"fmt"
	"testing"

	"lagoon/api"
	"lagoon/disk"
	"lagoon/snap"
	"lagoon/store"
	"lagoon/ztree"
)

// need: how much room the i-th write of a step needs, with all that stands there by then.
func (c step) need(t *testing.T, i int) int {
	t.Helper()
	return replayed(t, c.before.files(), c.all()[:i]).Used() + c.writes[i].adds
}

// fileCount: how many files have come by the first writes of a step.
func (c step) fileCount(t *testing.T, done int) int {
	t.Helper()
	return len(replayed(t, c.before.files(), c.all()[:done]).Names()) - len(c.before.files())
}

// startsIn is a step's store on a disk of that room; false, if that is too small for an Open.
func (c step) startsIn(t *testing.T, room int) (*disk.Disk, *store.Store, bool) {
	t.Helper()
	was := c.before
	was.Boot--
	used := 0
	for _, f := range was.files() {
		used += len(f.Bytes)
	}
	if room < used+len(manifestBytes(was.Manifest)) {
		return nil, nil, false
	}
	d, s := c.begun(t, room)
	return d, s, true
}

// agrees looks that a store, its disk, and what a later Open finds there are all this server.
func agrees(t *testing.T, what string, d *disk.Disk, s *store.Store, want server) {
	t.Helper()
	tells(t, what, s, want)
	holds(t, what, d, want.files()...)
	finds(t, what, d, want)
}

// TestFull: each write that puts bytes is refused as there is a byte too little: nothing has changed, and what was written of the change is removed.
func TestFull(t *testing.T) {
	met := map[string]int{}
	everyStep(func(c step) {
		for i, w := range c.writes {
			if w.adds == 0 {
				continue
			}
			d, s, fits := c.startsIn(t, c.need(t, i)-1)
			if !fits {
				continue // see TestFullByOthers
			}
			met[c.what[:5]]++
			what := fmt.Sprintf("P12.6: %s, full at write %d", c.what, i+1)
			n := d.Writes()
			answers(t, what, c.call(s), api.ErrFull)
			counted(t, what, d, n+i+c.fileCount(t, i))
			agrees(t, what, d, s, c.before)
			if c.before.Accepted < api.LastEpoch {
				answers(t, what+", then Accept", s.Accept(c.before.Accepted+1), api.OK)
			}
		}
	})
	for _, p := range []string{"P12.4", "P12.5"} {
		if met[p] < 20 {
			t.Errorf("the test's own calls: %v", met)
		}
	}
}

// filled is a step's store on a disk that has another file of so many bytes, put there behind the Open.
func (c step) filled(t *testing.T, left int) (*disk.Disk, *store.Store) {
	t.Helper()
	used := 0
	for _, f := range c.before.files() {
		used += len(f.Bytes)
	}
	d, s := c.begun(t, used+1000)
	answers(t, "the test's own file", d.Append("z", make([]byte, 1000-left)), api.OK)
	answers(t, "the test's own file", d.Sync("z"), api.OK)
	return d, s
}

// TestFullByOthers: a disk that others have filled but for a few bytes. Accept, Lead and Append leave that file; Take and Snapshot, which clear, do not.
func TestFullByOthers(t *testing.T) {
	everyStep(func(c step) {
		for _, left := range []int{0, 1, 37} { // too few for a manifest, and for a transaction
			d, s := c.filled(t, left)
			n := d.Writes()
			what := fmt.Sprintf("P12.6: %s, %d bytes left", c.what, left)
			answers(t, what, c.call(s), api.ErrFull)
			tells(t, what, s, c.before)
			finds(t, what, d, c.before)
			if p := c.what[:5]; p == "P12.2" || p == "P12.3" {
				counted(t, what, d, n)
				holds(t, what, d, append(c.before.files(), file("z", make([]byte, 1000-left)))...)
				continue
			}
			holds(t, what, d, c.before.files()...)
		}
	})
}

// TestJustRoom: with just the room that it needs each call is done.
func TestJustRoom(t *testing.T) {
	everyStep(func(c step) {
		room := 0
		for i := range c.writes {
			room = max(room, c.need(t, i))
		}
		d, s, fits := c.startsIn(t, room)
		if !fits {
			return
		}
		answers(t, c.what+", just room", c.call(s), api.OK)
		tells(t, c.what+", just room", s, c.after)
		holds(t, c.what+", just room", d, c.after.files()...)
	})
}

// crowded is the store of a server whose log has a segment a transaction, so that there are so many files.
func crowded(t *testing.T, files int) (*disk.Disk, *store.Store, server) {
	t.Helper()
	var l []api.Txn
	for range files - 2 {
		l = append(l, creates(api.Zxid{Epoch: 1, N: uint32(len(l)) + 1}))
	}
	s := server{api.Manifest{Accepted: 3, Current: 2, Log: 1}, 1, ztree.New(), parts(1, l)}
	d, x := started(t, s)
	last := s.booted().append(creates(z("2.1")))
	answers(t, last.what, last.call(x), api.OK)
	if len(d.Names()) != files {
		t.Fatalf("the test's own disk has %d files", len(d.Names()))
	}
	return d, x, last.after
}

// TestMostFiles: a disk takes no file more: ErrName, and nothing has changed.
func TestMostFiles(t *testing.T) {
	image := snap.Write(treeOf("1.1"))
	for files, refused := range map[int][]bool{api.MaxFiles: {true, true, true, true, true, true}, api.MaxFiles - 1: {false, false, false, true, true, true}, api.MaxFiles - 2: {false, false, false, false, true, true}} {
		for i, call := range []func(s server) step{
			func(s server) step { return s.accept(4) },
			func(s server) step { return s.lead(3) },
			func(s server) step { return s.append(creates(z("2.2"))) },
			func(s server) step { return s.take(api.Brought{Epoch: 3}) },
			func(s server) step { return s.take(api.Brought{Epoch: 3, Whole: true, Image: image}) },
			func(s server) step { return s.snapshot(s.upTo(z("2.1"))) },
		} {
			d, x, was := crowded(t, files)
			c := call(was)
			what := fmt.Sprintf("P12.6: %s, %d files", c.what, files)
			if !refused[i] {
				answers(t, what, c.call(x), api.OK)
				tells(t, what, x, c.after)
				holds(t, what, d, c.after.files()...)
				continue
			}
			answers(t, what, c.call(x), api.ErrName)
			tells(t, what, x, was)
			holds(t, what, d, was.files()...)
		}
	}
}

// TestFullThenNoPower: the power goes where what a full disk has cut short is cleared: the answer is the write's that was refused first, and a later Open clears the rest.
func TestFullThenNoPower(t *testing.T) {
	s := served(api.Manifest{Accepted: 4, Current: 3, Log: 1}, "", "1.1 1.2 1.3")
	c := s.booted().take(api.Brought{Epoch: 4, Whole: true, Image: snap.Write(treeOf("1.1")), Txns: txns("2.1 2.2 2.3")})
	for i, left := range map[int][]string{2: {"snap.2"}, 4: {"log.2.1", "snap.2"}, 6: {"log.2.1", "log.2.2", "snap.2"}} {
		for removed := range len(left) + 1 {
			d, x, _ := c.startsIn(t, c.need(t, i)-1)
			d.Arm(i + removed)
			what := fmt.Sprintf("P12.6: full at write %d, %d files removed", i+1, removed)
			answers(t, what, c.call(x), api.ErrFull)
			tells(t, what, x, c.before)
			holds(t, what, d, replayed(t, c.before.files(), append(c.writes[:i:i], removes(left...)[:removed]...)).Image()...)
			if d.On() != (removed == len(left)) {
				t.Errorf("%s: power %v", what, d.On())
			}
			restarted(d, 0)
			finds(t, what, d, c.before)
		}
	}
}

// TestFullExample: example 6.
func TestFullExample(t *testing.T) {
	s := served(api.Manifest{Accepted: 4, Current: 4, Snap: 3, Log: 4}, "1.1 1.2", "2.1")
	c := s.booted().accept(5)
	d, x := c.filled(t, 0)
	before := d.Image()
	answers(t, "example 6: Accept(5)", x.Accept(5), api.ErrFull)
	tells(t, "example 6: Accept(5)", x, c.before)
	holds(t, "example 6: Accept(5)", d, before...)
	for _, b := range []api.Brought{{Epoch: 4, Cut: z("2.1")}, {Epoch: 4, Cut: z("1.2"), Txns: txns("3.1")}, {Epoch: 4, Whole: true, Image: snap.Write(treeOf("1.1"))}} {
		d, x := c.filled(t, 0)
		answers(t, "example 6: Take", x.Take(b), api.ErrFull)
		agrees(t, "example 6: Take", d, x, c.before)
	}
}
