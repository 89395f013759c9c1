package digest_test

import (
	"math/rand/v2"
	"slices"
	"strings"
	"testing"

	"lagoon/api"
	"lagoon/digest"
	"lagoon/ztree"
)

func pick[T any](g *rand.Rand, l ...T) T { return l[g.IntN(len(l))] }

// anyRequest is one of those that a tree does, mostly.
func anyRequest(g *rand.Rand, tree *ztree.Tree) api.Request {
	p := tree.Nodes()[g.IntN(len(tree.Nodes()))].Path
	below := strings.TrimSuffix(p, "/") + pick(g, "/a", "/b", "/c")
	session := int64(0)
	if l := tree.Sessions(); len(l) > 0 {
		session = l[g.IntN(len(l))].Id
	}
	switch g.IntN(9) {
	case 0, 1:
		return create(below, pick(g, "", "x", "yy"))
	case 2:
		return api.Request{Kind: api.Create, Path: below, Sequence: g.IntN(2) == 0, Ephemeral: session != 0, Session: session}
	case 3:
		return remove(p)
	case 4:
		return set(p, pick(g, "", "x", "yy"))
	case 5:
		return api.Request{Kind: api.SetAcl, Path: p, Acl: []api.Entry{{Perms: pick(g, api.PermAll, int8(29)), Who: api.Id{Scheme: "world", Name: "anyone"}}}, Version: -1}
	case 6:
		return multi(create(below, "m"), set(p, ""), remove(pick(g, below, p)))
	case 7:
		return open(int32(1 + g.IntN(9)))
	default:
		if session == 0 {
			return create("/a", "")
		}
		return closing(session)
	}
}

// without is the elements of a list that are none of another one.
func without[T any](l, other []T, same func(a, b T) bool) []T {
	return slices.DeleteFunc(slices.Clone(l), func(x T) bool {
		return slices.ContainsFunc(other, func(y T) bool { return same(x, y) })
	})
}

func sameSession(a, b api.Session) bool { return a == b }

// TestTurnFollowsTheTree: behind any request, the tree's number is the other one's, turned by the nodes that went and came, and by the sessions.
func TestTurnFollowsTheTree(t *testing.T) {
	g := rand.New(rand.NewPCG(8, 5))
	turns := 0
	for range 40 {
		tree := ztree.New()
		for n := range 60 {
			d, nodes, sessions := digest.Of(tree), tree.Nodes(), tree.Sessions()
			tree.Apply(api.Txn{Zxid: z(uint32(n + 1)), Req: anyRequest(g, tree)})
			gone, come := without(nodes, tree.Nodes(), sameNode), without(tree.Nodes(), nodes, sameNode)
			want := digest.Turn(d, gone, come)
			if len(gone)+len(come) > 0 {
				turns++
			}
			want = round(want, sessionNumbers(without(sessions, tree.Sessions(), sameSession)), sessionNumbers(without(tree.Sessions(), sessions, sameSession)))
			if h := digest.Of(tree); h != want || h != treeNumber(tree) {
				t.Fatalf("P8.3: behind transaction %d: %X, not %X", n+1, h, want)
			}
		}
	}
	if turns < 1000 {
		t.Errorf("the test's own requests: only %d of them changed a node", turns)
	}
}

// TestSameTreesSameNumber: a tree out of what another one tells has its number, and goes on with it.
func TestSameTreesSameNumber(t *testing.T) {
	g := rand.New(rand.NewPCG(8, 6))
	for range 30 {
		tree := ztree.New()
		for n := range 40 {
			tree.Apply(api.Txn{Zxid: z(uint32(n + 1)), Req: anyRequest(g, tree)})
		}
		other, e := ztree.From(tree.Last(), tree.Nodes(), tree.Sessions())
		if e != api.OK || digest.Of(other) != digest.Of(tree) {
			t.Fatalf("P8.2: a tree out of another one: %d, %X, not %X", e, digest.Of(other), digest.Of(tree))
		}
		for n := range 20 {
			r := anyRequest(g, tree)
			tree.Apply(api.Txn{Zxid: z(uint32(n + 41)), Req: r})
			other.Apply(api.Txn{Zxid: z(uint32(n + 41)), Req: r})
			if digest.Of(other) != digest.Of(tree) {
				t.Fatalf("P8.2: behind %+v: %X, not %X", r, digest.Of(other), digest.Of(tree))
			}
		}
	}
}
