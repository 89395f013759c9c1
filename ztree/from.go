package ztree

import (
	"lagoon/acl"
	"lagoon/api"
	"lagoon/path"
	"lagoon/txn"
)

// takeSessions takes sessions that are handed in, if they may be those of a tree; else the tree is none.
func (t *Tree) takeSessions(l []api.Session) bool {
	if len(l) > api.MaxSessions {
		return false
	}
	for i, s := range l {
		if i > 0 && s.Id <= l[i-1].Id || !t.mayHave(s) {
			return false
		}
		t.sessions[s.Id] = s.Timeout
	}
	return true
}

// mayHave tells whether a session may be one of this tree: its number is the zxid of a transaction that was applied.
func (t *Tree) mayHave(s api.Session) bool {
	z, e := txn.Unpack(s.Id)
	return e == api.OK && z != api.Zxid{} && t.isBehind(z) && s.Timeout >= 1 && s.Timeout <= api.MaxTimeout
}

// takeNodes takes nodes that are handed in, if they may be those of a tree with its sessions; else the tree is none.
func (t *Tree) takeNodes(l []api.Node) bool {
	if len(l) == 0 || len(l) > api.MaxNodes || l[0].Path != root || l[0].Stat.Owner != 0 {
		return false
	}
	for i, n := range l {
		if i > 0 && (n.Path <= l[i-1].Path || !t.hasParentFor(n)) || !t.isSound(n) {
			return false
		}
		t.nodes[n.Path] = cloned(n)
	}
	return areCountsRight(l)
}

// hasParentFor tells whether a node's parent was taken, and may have children. As paths rise it comes ahead of them; of a text that is no path there is none.
func (t *Tree) hasParentFor(n api.Node) bool {
	up, there := t.nodes[path.Parent(n.Path)]
	return there && up.Stat.Owner == 0
}

// isSound tells of a node all that can be told without its place in the tree.
func (t *Tree) isSound(n api.Node) bool {
	s := n.Stat
	return len(n.Data) <= api.MaxData && s.Size == len(n.Data) && isFixed(n.Acl) &&
		t.isBehind(s.Made) && t.isBehind(s.Changed) && t.isBehind(s.Childs) &&
		(s.Owner == 0 || t.isSession(s.Owner))
}

func areCountsRight(l []api.Node) bool {
	counts := make(map[string]int, len(l))
	for _, n := range l {
		counts[path.Parent(n.Path)]++
	}
	for _, n := range l {
		if n.Stat.Count != counts[n.Path] {
			return false
		}
	}
	return true
}

// isBehind tells whether a zxid may be, and is one up to the last.
func (t *Tree) isBehind(z api.Zxid) bool { return mayBe(z) && txn.Compare(z, t.last) <= 0 }

// mayBe tells whether a zxid may be. Pack refuses the epochs that are too great; beside that a zxid is zero in both its numbers or in none.
func mayBe(z api.Zxid) bool {
	_, e := txn.Pack(z)
	return e == api.OK && (z.Epoch == 0) == (z.N == 0)
}

// isFixed tells whether a list is one that a node keeps: these, and no others, allow nothing to nobody.
func isFixed(l []api.Entry) bool { return acl.Allows(l, 0, nil) }
