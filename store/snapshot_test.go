package store_test

import (
	"fmt"
	"math"
	"slices"
	"testing"

	"lagoon/api"
	"lagoon/ztree"
)

// noTrees are trees that no call of their package made.
func noTrees() []*ztree.Tree { return []*ztree.Tree{nil, {}, new(ztree.Tree)} }

// TestSnapshotNone: no tree, ahead of all else.
func TestSnapshotNone(t *testing.T) {
	for name, s := range servers() {
		for _, none := range noTrees() {
			d, x := started(t, s)
			answers(t, "P12.5: no tree, "+name, x.Snapshot(none), api.ErrArg)
			counted(t, "P12.5: no tree, "+name, d, 3)
			agrees(t, "P12.5: no tree, "+name, d, x, s.booted())
			d.Off()
			answers(t, "P12.5: no tree, off, "+name, x.Snapshot(none), api.ErrArg)
		}
	}
}

// TestSnapshotAt: a tree at each zxid of a history, and at others.
func TestSnapshotAt(t *testing.T) {
	for name, s := range servers() {
		for _, text := range []string{"", "1.1", "1.2", "1.3", "1.4", "1.5", "2.1", "2.2", "2.7", "2.8", "3.1", "3.2", "2147483647.5", "2147483647.6"} {
			tree := treeOf(text)
			what := fmt.Sprintf("P12.5: %s, a tree of %q", name, text)
			c := s.booted().snapshot(tree)
			d, x := c.begun(t, api.MaxRoom)
			switch at := tree.Last(); {
			case at == s.tree.Last():
				answers(t, what, x.Snapshot(tree), api.OK)
				counted(t, what, d, 3)
				agrees(t, what, d, x, c.before)
			case slices.Contains(s.stand(), at):
				answers(t, what, x.Snapshot(tree), api.OK)
				counted(t, what, d, 3+len(c.all()))
				agrees(t, what, d, x, c.after)
				if x.Durable().Last != s.last() {
					t.Errorf("%s: its history ends with %v, not %v", what, x.Durable().Last, s.last())
				}
			default:
				answers(t, what, x.Snapshot(tree), api.ErrBefore)
				counted(t, what, d, 3)
				agrees(t, what, d, x, c.before)
			}
		}
	}
}

// TestSnapshotSame: at the snapshot's zxid nothing is done: with another tree, on a full disk, without a next number.
func TestSnapshotSame(t *testing.T) {
	s := served(api.Manifest{Boot: 1, Snap: math.MaxInt64, Log: 2}, "1.1 1.3", "1.4")
	c := s.booted().snapshot(treeOf("1.1 1.2 1.3"))
	d, x := c.filled(t, 0)
	before, n := d.Image(), d.Writes()
	d.Arm(0)
	answers(t, "P12.5: at the snapshot's zxid", c.call(x), api.OK)
	counted(t, "P12.5: at the snapshot's zxid", d, n)
	holds(t, "P12.5: at the snapshot's zxid", d, before...)
	tells(t, "P12.5: at the snapshot's zxid", x, s.booted())
	answers(t, "P12.5: not in the history comes ahead of no number", x.Snapshot(treeOf("1.2")), api.ErrBefore)
	answers(t, "P12.5: no number", x.Snapshot(treeOf("1.4")), api.ErrSpent)
	d.Off()
	for _, text := range []string{"1.3", "1.2", "1.4"} {
		answers(t, "P12.5: off", x.Snapshot(treeOf(text)), api.ErrDown)
	}
}

// TestSnapshotAnyTree: whether a tree is what its history makes is not looked at.
func TestSnapshotAnyTree(t *testing.T) {
	s := served(api.Manifest{Boot: 1, Log: 1}, "", "1.1 1.2 1.3").booted()
	other := ztree.New()
	other.Apply(api.Txn{Zxid: z("1.2"), Req: api.Request{Kind: api.Open, Timeout: 9}})
	c := s.snapshot(other)
	d, x := c.begun(t, api.MaxRoom)
	answers(t, "P12.5: another tree", c.call(x), api.OK)
	agrees(t, "P12.5: another tree", d, x, c.after)
	if l := x.Tree().Sessions(); len(l) != 1 {
		t.Errorf("P12.5: another tree: sessions %v", l)
	}
}

// TestSnapshotExample: example 4.
func TestSnapshotExample(t *testing.T) {
	d, s := started(t, served(api.Manifest{Accepted: 4, Current: 4, Log: 2}, "", "1.1 1.2 2.1"))
	answers(t, "example 4", s.Snapshot(treeOf("1.1 1.2")), api.OK)
	m := api.Manifest{Boot: 1, Accepted: 4, Current: 4, Snap: 3, Log: 3}
	holds(t, "example 4", d, file("log.3.1", frames(txns("2.1"))), file("manifest", manifestBytes(m)), file("snap.3", imageOf("1.1 1.2")))
	tells(t, "example 4", s, served(m, "1.1 1.2", "2.1"))
	if got := s.Durable(); got != (api.Durable{Boot: 1, Accepted: 4, Current: 4, Snap: z("1.2"), Last: z("2.1")}) {
		t.Errorf("example 4: %v", got)
	}
	n := d.Writes()
	answers(t, "example 4: the same again", s.Snapshot(treeOf("1.1 1.2")), api.OK)
	answers(t, "example 4: Cut (1, 1)", s.Take(api.Brought{Epoch: 4, Cut: z("1.1")}), api.ErrBefore)
	counted(t, "example 4: no write", d, n)
	answers(t, "example 4: Cut (1, 2)", s.Take(api.Brought{Epoch: 4, Cut: z("1.2")}), api.OK)
	m.Log = 4
	holds(t, "example 4", d, file("log.4.1", nil), file("manifest", manifestBytes(m)), file("snap.3", imageOf("1.1 1.2")))
	agrees(t, "example 4", d, s, served(m, "1.1 1.2", ""))
}
