package ztree_test

import (
	"math"
	"slices"
	"strconv"
	"strings"
	"testing"

	"lagoon/api"
	"lagoon/ztree"
)

func TestNew(t *testing.T) {
	tree := ztree.New()
	if l := tree.Nodes(); !sameNodes(l, []api.Node{{Path: "/", Acl: everybody()}}) {
		t.Errorf("P7.1: %+v", l)
	}
	if tree.Last() != zero || len(tree.Sessions()) > 0 {
		t.Errorf("P7.1: Last %v, Sessions %v", tree.Last(), tree.Sessions())
	}
	other := ztree.New()
	(&play{t, tree}).does(create("/a"), made("/a", "/")...)
	if !ztree.Same(other, ztree.New()) || ztree.Same(other, tree) {
		t.Errorf("R6: two trees of New know of each other")
	}
}

// parts are what From is handed.
type parts struct {
	last     api.Zxid
	nodes    []api.Node
	sessions []api.Session
}

// sound is a tree's parts with all that a tree may have: versions at every edge, ephemeral nodes, children, data.
func sound() *parts {
	top := node("/", counts(3), versions(math.MinInt32, -1, -2), next(math.MinInt32))
	top.Stat.Made, top.Stat.Changed = zero, zero
	return &parts{
		last: api.Zxid{Epoch: 2, N: 5},
		nodes: []api.Node{
			top,
			node("/a", counts(2), versions(math.MaxInt32, math.MinInt32, 7), holds("xyz"), next(-1)),
			node("/a/b", keeps("1 name:ann", "2 ip:1.2.3.4/8")),
			node("/a/c", owned(first), holds(strings.Repeat("d", api.MaxData))),
			node("/a-b", owned(1<<33+5)),
			node("/c"),
		},
		sessions: []api.Session{{Id: first, Timeout: 1}, {Id: 1<<32 + 2, Timeout: 7}, {Id: 1<<33 + 5, Timeout: api.MaxTimeout}},
	}
}

// sorted puts nodes in order; '-' comes ahead of '/'.
func (p *parts) sorted() *parts {
	slices.SortFunc(p.nodes, func(a, b api.Node) int { return strings.Compare(a.Path, b.Path) })
	return p
}

func (p *parts) at(text string) *api.Node {
	return &p.nodes[slices.IndexFunc(p.nodes, func(n api.Node) bool { return n.Path == text })]
}

func takes(t *testing.T, what string, p *parts) {
	t.Helper()
	tree, e := ztree.From(p.last, p.nodes, p.sessions)
	if e != api.OK || tree == nil {
		t.Errorf("P7.2: %s: refused with %d", what, e)
		return
	}
	if tree.Last() != p.last || !sameNodes(tree.Nodes(), p.nodes) || !slices.Equal(tree.Sessions(), p.sessions) {
		t.Errorf("P7.2: %s: %v, %+v, %v", what, tree.Last(), tree.Nodes(), tree.Sessions())
	}
}

func refuses(t *testing.T, what string, p *parts) {
	t.Helper()
	if tree, e := ztree.From(p.last, p.nodes, p.sessions); e != api.ErrArg || tree != nil {
		t.Errorf("P7.2: %s: %d, and a tree: %v", what, e, tree != nil)
	}
}

func TestFromSound(t *testing.T) {
	takes(t, "all kinds of nodes", sound().sorted())
	takes(t, "the root alone", &parts{nodes: []api.Node{{Path: "/", Acl: everybody()}}})
	takes(t, "the root with all that it may have", &parts{last: z(1), nodes: []api.Node{node("/", holds("x"), keeps("16 name:ann"), versions(5, 6, 7), next(8))}})
	for _, last := range []api.Zxid{z(1), {Epoch: api.LastEpoch, N: api.LastCounter}, {Epoch: 1, N: api.LastCounter}, {Epoch: api.LastEpoch, N: 1}} {
		p := &parts{last: last, nodes: []api.Node{node("/")}}
		p.nodes[0].Stat.Changed, p.nodes[0].Stat.Made, p.nodes[0].Stat.Childs = last, last, last
		takes(t, "all at the last", p)
	}
	latest := api.Zxid{Epoch: api.LastEpoch, N: api.LastCounter}
	takes(t, "the greatest session", &parts{latest, []api.Node{node("/", counts(1)), node("/e", owned(math.MaxInt64))}, []api.Session{{Id: math.MaxInt64, Timeout: 5}}})
}

// TestFromBroken: each condition is broken by itself.
func TestFromBroken(t *testing.T) {
	at := func(text string, f func(*api.Node)) func(*parts) {
		return func(p *parts) { f(p.at(text)) }
	}
	session := func(i int, f func(*api.Session)) func(*parts) {
		return func(p *parts) { f(&p.sessions[i]) }
	}
	high, low := api.Zxid{Epoch: 2, N: 6}, api.Zxid{Epoch: 3, N: 1}
	for what, spoil := range map[string]func(*parts){
		"last of an epoch without a number": func(p *parts) { p.last = api.Zxid{Epoch: 9} },
		"last of a number without an epoch": func(p *parts) { p.last = api.Zxid{N: 9} },
		"last of an epoch that is too high": func(p *parts) { p.last = api.Zxid{Epoch: 1 << 31, N: 9} },
		"last below a session":              func(p *parts) { p.last = api.Zxid{Epoch: 2, N: 4} },
		"no nodes":                          func(p *parts) { p.nodes = nil },
		"no root":                           func(p *parts) { p.nodes = p.nodes[1:] },
		"a node twice":                      func(p *parts) { p.nodes = slices.Insert(p.nodes, 5, p.nodes[4]); p.nodes[1].Stat.Count++ },
		"the root twice":                    func(p *parts) { p.nodes = slices.Insert(p.nodes, 1, p.nodes[0]) },
		"two nodes that fall":               func(p *parts) { p.nodes[3], p.nodes[4] = p.nodes[4], p.nodes[3] },
		"a child ahead of its parent":       func(p *parts) { p.nodes[1], p.nodes[3] = p.nodes[3], p.nodes[1] },
		"a node twice, counted once":        func(p *parts) { p.nodes = slices.Insert(p.nodes, 5, p.nodes[4]) },
		"no path":                           at("/c", func(n *api.Node) { n.Path = "/c/" }),
		"a text that begins no path":        at("/c", func(n *api.Node) { n.Path = "c" }),
		"a path that is too long":           at("/c", func(n *api.Node) { n.Path = "/c" + strings.Repeat("x", 24) }),
		"no parent":                         func(p *parts) { p.at("/a/c").Path, p.at("/a").Stat.Count = "/b/c", 1 },
		"a parent's parent alone":           func(p *parts) { p.at("/a/c").Path, p.at("/a").Stat.Count = "/a/b/x/y", 1 },
		"an ephemeral node with children":   at("/a", owned(first)),
		"Data that is too long":             at("/a/c", holds(strings.Repeat("d", api.MaxData+1))),
		"an empty Acl":                      at("/c", keeps()),
		"an Acl with auth":                  at("/c", keeps("31 world:anyone", "31 auth:")),
		"an Acl of five":                    at("/c", keeps("1 name:a", "1 name:b", "1 name:c", "1 name:d", "1 name:e")),
		"an Acl with a double":              at("/c", keeps("1 name:a", "1 name:a")),
		"an Acl without permissions":        at("/c", keeps("0 name:a")),
		"Made above last":                   at("/c", func(n *api.Node) { n.Stat.Made = high }),
		"Changed above last":                at("/c", func(n *api.Node) { n.Stat.Changed = high }),
		"Childs above last":                 at("/c", func(n *api.Node) { n.Stat.Childs = high }),
		"Made of a later epoch":             at("/c", func(n *api.Node) { n.Stat.Made = low }),
		"Changed of a later epoch":          at("/c", func(n *api.Node) { n.Stat.Changed = low }),
		"Childs of a later epoch":           at("/c", func(n *api.Node) { n.Stat.Childs = low }),
		"Made that may not be":              at("/c", func(n *api.Node) { n.Stat.Made = api.Zxid{Epoch: 1} }),
		"Changed that may not be":           at("/c", func(n *api.Node) { n.Stat.Changed = api.Zxid{N: 1} }),
		"Childs that may not be":            at("/c", func(n *api.Node) { n.Stat.Childs = api.Zxid{N: 1} }),
		"the root's Made above last":        at("/", func(n *api.Node) { n.Stat.Made = high }),
		"a Size that is too great":          at("/a", func(n *api.Node) { n.Stat.Size++ }),
		"a Size that is too small":          at("/a", func(n *api.Node) { n.Stat.Size-- }),
		"a Size below 0":                    at("/c", func(n *api.Node) { n.Stat.Size = -1 }),
		"a Count that is too great":         at("/a", func(n *api.Node) { n.Stat.Count++ }),
		"a Count that is too small":         at("/a", func(n *api.Node) { n.Stat.Count-- }),
		"a Count of a node without any":     at("/c", func(n *api.Node) { n.Stat.Count = 1 }),
		"the root's Count too great":        at("/", func(n *api.Node) { n.Stat.Count++ }),
		"the root's Count of all below it":  at("/", func(n *api.Node) { n.Stat.Count = 5 }),
		"an Owner that is no session":       at("/c", owned(first+2)),
		"an Owner below 0":                  at("/c", owned(-1)),
		"too many sessions":                 func(p *parts) { p.last, p.sessions = api.Zxid{Epoch: 9, N: 99}, append(p.sessions, opened(62)...) },
		"a session twice":                   func(p *parts) { p.sessions = append(p.sessions, p.sessions[2]) },
		"two sessions that fall":            func(p *parts) { p.sessions[0], p.sessions[1] = p.sessions[1], p.sessions[0] },
		"a session above last":              func(p *parts) { p.sessions = append(p.sessions, api.Session{Id: 1<<33 + 6, Timeout: 1}) },
		"a session of a later epoch":        func(p *parts) { p.sessions = append(p.sessions, api.Session{Id: 3<<32 + 1, Timeout: 1}) },
		"a session of no number":            session(1, func(s *api.Session) { s.Id = 1 << 33 }),
		"a session of no epoch":             func(p *parts) { p.sessions = slices.Insert(p.sessions, 0, api.Session{Id: 7, Timeout: 1}) },
		"a session 0":                       func(p *parts) { p.sessions = slices.Insert(p.sessions, 0, api.Session{Timeout: 1}) },
		"a session below 0":                 func(p *parts) { p.sessions = slices.Insert(p.sessions, 0, api.Session{Id: -1, Timeout: 1}) },
		"a Timeout of 0":                    session(1, func(s *api.Session) { s.Timeout = 0 }),
		"a Timeout below 0":                 session(1, func(s *api.Session) { s.Timeout = -1 }),
		"a Timeout that is too great":       session(1, func(s *api.Session) { s.Timeout = api.MaxTimeout + 1 }),
	} {
		p := sound().sorted()
		spoil(p)
		refuses(t, what, p)
	}
	rootOwned := &parts{z(9), []api.Node{node("/", owned(first))}, []api.Session{{Id: first, Timeout: 1}}}
	refuses(t, "an owned root", rootOwned)
	refuses(t, "another text than the root", &parts{z(9), []api.Node{node("")}, nil})
	refuses(t, "another path than the root", &parts{z(9), []api.Node{node("/a")}, nil})
	refuses(t, "a session above a last of zero", &parts{zero, []api.Node{{Path: "/", Acl: everybody()}}, []api.Session{{Id: first, Timeout: 1}}})
}

// opened are so many sessions, from (2, 6) on.
func opened(many int) []api.Session {
	var l []api.Session
	for i := range many {
		l = append(l, api.Session{Id: 1<<33 + 6 + int64(i), Timeout: 1})
	}
	return l
}

// wide is the root with so many children, and it alone if none.
func wide(many int) []api.Node {
	l := []api.Node{node("/", counts(many))}
	for i := range many {
		l = append(l, node("/n"+strconv.Itoa(10000+i)))
	}
	return l
}

func TestFromLimits(t *testing.T) {
	takes(t, "all the nodes that may be", &parts{z(9), wide(api.MaxNodes - 1), nil})
	refuses(t, "a node more", &parts{z(9), wide(api.MaxNodes), nil})
	refuses(t, "many nodes more", &parts{z(9), wide(4 * api.MaxNodes), nil})
	takes(t, "all the sessions that may be", &parts{api.Zxid{Epoch: 3, N: 1}, wide(0), opened(api.MaxSessions)})
	refuses(t, "a session more", &parts{api.Zxid{Epoch: 3, N: 1}, wide(0), opened(api.MaxSessions + 1)})
	deep := []api.Node{node("/", counts(1))}
	p := ""
	for range 32 {
		p += "/a"
		deep = append(deep, node(p, counts(1)))
	}
	deep[32].Stat.Count = 0
	takes(t, "a tree of 64 bytes' depth", &parts{z(9), deep, nil})
	deep[32].Stat.Count = 1
	refuses(t, "a path of 66 bytes", &parts{z(9), append(deep, node(p+"/a")), nil})
}

// TestFromNothing: lists that are nil and such without elements are the same.
func TestFromNothing(t *testing.T) {
	a, e := ztree.From(zero, []api.Node{{Path: "/", Data: []byte{}, Acl: everybody()}}, []api.Session{})
	b, f := ztree.From(zero, []api.Node{{Path: "/", Acl: everybody()}}, nil)
	if e != api.OK || f != api.OK || !ztree.Same(a, b) || !ztree.Same(a, ztree.New()) {
		t.Errorf("R4: %d, %d", e, f)
	}
	refuses(t, "nothing at all", &parts{})
	refuses(t, "a list of no nodes", &parts{nodes: []api.Node{}})
}
