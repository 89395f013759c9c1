package digest_test

import (
	"bytes"
	"slices"
	"testing"

	"lagoon/api"
	"lagoon/digest"
)

// roomy is a list of nodes whose lists, and it itself, have spare room that is filled.
func roomy() []api.Node {
	l := slices.Repeat([]api.Node{whole(), {Path: "/spare"}}, 3)
	for i := range l {
		data := []byte{1, 2, 3, 4, 5, 6, 7, 8, byte(i)}
		l[i].Data = data[:i:9]
		entries := slices.Repeat([]api.Entry{{Perms: int8(i), Who: api.Id{Scheme: "spare", Name: "room"}}}, 7)
		l[i].Acl = entries[: i/2 : 7]
	}
	return l[:4]
}

// sameRoom compares lists of nodes to the ends of their spare room.
func sameRoom(a, b []api.Node) bool {
	same := func(a, b api.Node) bool {
		return sameNode(a, b) && bytes.Equal(a.Data[:cap(a.Data)], b.Data[:cap(b.Data)]) && slices.Equal(a.Acl[:cap(a.Acl)], b.Acl[:cap(b.Acl)])
	}
	return len(a) == len(b) && slices.EqualFunc(a[:cap(a)], b[:cap(b)], same)
}

// spoil writes over all that a list of nodes holds.
func spoil(l []api.Node) {
	for i, n := range l[:cap(l)] {
		for k := range n.Data[:cap(n.Data)] {
			n.Data[:cap(n.Data)][k] = 0xEE
		}
		for k := range n.Acl[:cap(n.Acl)] {
			n.Acl[:cap(n.Acl)][k] = api.Entry{Perms: 2}
		}
		l[:cap(l)][i] = api.Node{Path: "/spoilt"}
	}
}

// TestHandedInStays: nodes and lists of them, their spare room too.
func TestHandedInStays(t *testing.T) {
	l, m := roomy(), roomy()
	if !sameRoom(l, m) || cap(l) != 6 || cap(l[0].Data) != 9 || cap(l[1].Acl) != 7 {
		t.Fatalf("the test's own lists: %+v", l)
	}
	for _, n := range l[:cap(l)] {
		digest.Node(n)
	}
	if !sameRoom(l, roomy()) {
		t.Errorf("R5: Node changed what it was handed: %+v", l)
	}
	digest.Turn(5, l, m)
	digest.Turn(5, m[:2], l[1:3])
	digest.Turn(5, l, l)
	digest.Turn(5, l[:0], nil)
	if !sameRoom(l, roomy()) || !sameRoom(m, roomy()) {
		t.Errorf("R5: Turn changed what it was handed: %+v, %+v", l, m)
	}
}

// TestSpareRoomIsNotInIt: a list ends where it ends.
func TestSpareRoomIsNotInIt(t *testing.T) {
	want := round(5, nil, nodeNumbers(roomy()))
	if h := digest.Turn(5, nil, roomy()); h != want {
		t.Errorf("P8.3: with spare room: %d, not %d", h, want)
	}
	for i, n := range roomy() {
		tight := n
		tight.Data, tight.Acl = slices.Clip(slices.Clone(n.Data)), slices.Clip(slices.Clone(n.Acl))
		if digest.Node(n) != digest.Node(tight) || digest.Node(n) != number(nodeBytes(n)) {
			t.Errorf("P8.1: node %d with spare room: another number", i)
		}
	}
}

// TestNothingKept: what becomes of an argument later is nothing to what is asked then.
func TestNothingKept(t *testing.T) {
	l, m := roomy(), roomy()
	d := digest.Turn(5, l[:1], m)
	numbers := nodeNumbers(l)
	for i, n := range l {
		if digest.Node(n) != numbers[i] {
			t.Errorf("P8.1: node %d", i)
		}
	}
	spoil(l)
	spoil(m)
	if h := digest.Turn(5, l[:1], m); h != round(5, nodeNumbers(l[:1]), nodeNumbers(m)) || h == d {
		t.Errorf("R5: Turn keeps what it was handed: %d", h)
	}
	for i, n := range roomy() {
		if digest.Node(n) != numbers[i] || digest.Node(l[i]) == numbers[i] {
			t.Errorf("R5: Node keeps what it was handed, node %d", i)
		}
	}
	if digest.Turn(5, roomy()[:1], roomy()) != d {
		t.Errorf("R6: Turn of the same is another number")
	}
}

// TestTreeIsNotKept: a tree's number is that of the tree as it is now, and what Nodes tells is not looked at again.
func TestTreeIsNotKept(t *testing.T) {
	tree := road(t, open(9), create("/a", "x"))
	d := digest.Of(tree)
	spoil(tree.Nodes())
	if digest.Of(tree) != d {
		t.Errorf("R5: Of shares what the tree told")
	}
	does(t, tree, set("/a", "y"))
	if h := digest.Of(tree); h == d || h != treeNumber(tree) {
		t.Errorf("P8.2: behind a change: %X, not %X", h, treeNumber(tree))
	}
}
