package digest_test

import (
	"math"
	"strconv"
	"testing"

	"lagoon/api"
	"lagoon/digest"
	"lagoon/ztree"
)

const first = 1<<32 + 1

// TestNewTree: the second example, with the number itself.
func TestNewTree(t *testing.T) {
	tree := ztree.New()
	root := api.Node{Path: "/", Acl: []api.Entry{{Perms: api.PermAll, Who: api.Id{Scheme: "world", Name: "anyone"}}}}
	if h := digest.Of(tree); h != digest.Node(root) || h != digest.Node(tree.Nodes()[0]) || h != 0x07CADA9DA8D5CAD5 {
		t.Errorf("P8.2: the new tree: %X", h)
	}
}

// TestNoTree: a nil one, and ones that layer 7 did not make.
func TestNoTree(t *testing.T) {
	var plain ztree.Tree
	refused, e := ztree.From(api.Zxid{}, nil, nil)
	if e != api.ErrArg {
		t.Fatalf("From of nothing: %d", e)
	}
	plain.Apply(api.Txn{Zxid: z(1), Req: create("/a", "")})
	for what, none := range map[string]*ztree.Tree{"nil": nil, "plain": &plain, "new": new(ztree.Tree), "refused": refused, "a nil one's twin": (*ztree.Tree)(nil).Twin()} {
		if h := digest.Of(none); h != 0 {
			t.Errorf("P8.2: %s: %X", what, h)
		}
	}
}

// full is a tree with all nodes and sessions that may be.
func full(t *testing.T) *ztree.Tree {
	t.Helper()
	tree := ztree.New()
	for i := range api.MaxSessions {
		does(t, tree, open(int32(i+1)))
	}
	for i := range api.MaxNodes - 1 {
		r := create("/n"+strconv.Itoa(i), strconv.Itoa(i*i))
		if i%7 == 0 {
			r.Ephemeral, r.Session = true, first+int64(i%api.MaxSessions)
		}
		does(t, tree, r)
	}
	return tree
}

// TestTrees: with sessions and without, small and as large as may be.
func TestTrees(t *testing.T) {
	for what, tree := range map[string]*ztree.Tree{
		"a node":            road(t, create("/a", "x")),
		"a session":         road(t, open(9)),
		"sessions":          road(t, open(9), open(9), open(api.MaxTimeout)),
		"one of each":       road(t, open(9), create("/a", "")),
		"an ephemeral node": road(t, open(1), ephemeral("/e", first), create("/a", ""), create("/a/b", "y")),
		"all":               full(t),
	} {
		if h, want := digest.Of(tree), treeNumber(tree); h != want || h == 0 {
			t.Errorf("P8.2: %s: %X, not %X", what, h, want)
		}
	}
	tree := full(t)
	if len(tree.Nodes()) != api.MaxNodes || len(tree.Sessions()) != api.MaxSessions {
		t.Errorf("the test's own tree: %d nodes, %d sessions", len(tree.Nodes()), len(tree.Sessions()))
	}
}

// TestSessionsCount: a session that comes, or goes, makes its own number's difference.
func TestSessionsCount(t *testing.T) {
	tree := ztree.New()
	d := digest.Of(tree)
	does(t, tree, open(9), open(math.MaxInt8))
	one, two := digest.Session(api.Session{Id: first, Timeout: 9}), digest.Session(api.Session{Id: first + 1, Timeout: math.MaxInt8})
	if h := digest.Of(tree); h != d+one+two {
		t.Errorf("P8.2: two sessions: %X, not %X", h, d+one+two)
	}
	does(t, tree, closing(first))
	if h := digest.Of(tree); h != d+two {
		t.Errorf("P8.2: one of two sessions is gone: %X, not %X", h, d+two)
	}
	does(t, tree, closing(first+1))
	if h := digest.Of(tree); h != d {
		t.Errorf("P8.2: both sessions are gone: %X, not %X", h, d)
	}
}

// TestLastIsNotInIt: a tree goes on, and its number stays, if neither nodes nor sessions change.
func TestLastIsNotInIt(t *testing.T) {
	tree := road(t, open(9), create("/a", "x"), create("/a/b", ""))
	d, last := digest.Of(tree), tree.Last()
	for _, r := range []api.Request{
		create("/a", ""), create("none", ""), remove("/a"), set("/c", ""), ephemeral("/e", 5), closing(5),
		multi(create("/m", ""), set("/a", "y"), remove("/a/b"), remove("/m"), create("/", "")),
		{Kind: api.Check, Path: "/a", Version: -1},
	} {
		tree.Apply(api.Txn{Zxid: z(tree.Last().N + 1), Req: r})
		if digest.Of(tree) != d {
			t.Errorf("P8.2: behind %+v: %X, not %X", r, digest.Of(tree), d)
		}
	}
	if tree.Last().N != last.N+8 {
		t.Errorf("the test's own tree: Last %v behind %v", tree.Last(), last)
	}
	if later, e := ztree.From(api.Zxid{Epoch: api.LastEpoch, N: api.LastCounter}, tree.Nodes(), tree.Sessions()); e != api.OK || digest.Of(later) != d {
		t.Errorf("P8.2: with another Last: %d, %X, not %X", e, digest.Of(later), d)
	}
}

// TestUnlikeRoads: the same nodes and sessions, come to otherwise, have the same number.
func TestUnlikeRoads(t *testing.T) {
	one := road(t, multi(create("/a", "x"), create("/b", "y"), create("/c", "")), open(5))
	two := road(t, multi(create("/c", ""), create("/b", "y"), create("/a", "x")), open(5))
	// the session that goes and the Multi that fails leave nothing
	three := road(t, multi(create("/b", "y"), create("/a", "x"), create("/c", "")), open(5), open(6), closing(first+2))
	three.Apply(api.Txn{Zxid: z(9), Req: multi(create("/d", ""), remove("/d"), remove("/e"))})
	four, e := ztree.From(one.Last(), one.Nodes(), one.Sessions())
	if e != api.OK {
		t.Fatalf("From: %d", e)
	}
	for i, tree := range []*ztree.Tree{one, two, three, four, one.Twin(), three.Twin()} {
		if h := digest.Of(tree); h != digest.Of(one) || h != treeNumber(one) {
			t.Errorf("P8.2: by road %d: %X, not %X", i, h, digest.Of(one))
		}
	}
	// the same paths and data, but the zxids and versions are others
	five := road(t, create("/a", "x"), create("/b", "y"), create("/c", ""), open(5))
	six := road(t, multi(create("/a", "x"), create("/b", "y"), create("/c", "")), open(6))
	for i, tree := range []*ztree.Tree{five, six} {
		if digest.Of(tree) == digest.Of(one) {
			t.Errorf("P8.2: another tree, %d, has the same number", i)
		}
	}
}

// TestTreeStays: Of changes nothing, and the tree goes on as one that was not asked.
func TestTreeStays(t *testing.T) {
	l := []api.Request{open(9), create("/a", "x"), create("/a/b", ""), ephemeral("/a/e", first), set("/a", "yy"), remove("/a/b"), closing(first)}
	asked, other := ztree.New(), ztree.New()
	for _, r := range l {
		digest.Of(asked)
		does(t, asked, r)
		does(t, other, r)
		twin := asked.Twin()
		if d := digest.Of(asked); d != digest.Of(asked) || d != digest.Of(twin) || d != digest.Of(other) {
			t.Errorf("P8.2: behind %+v: not the same twice", r)
		}
		if !ztree.Same(asked, other) || !ztree.Same(asked, twin) {
			t.Errorf("P8.2: behind %+v: the tree has changed", r)
		}
	}
}
