package ztree_test

import (
	"bytes"
	"slices"
	"testing"

	"lagoon/api"
	"lagoon/txn"
	"lagoon/ztree"
)

// spoilBytes and spoilEntries write over a list and its spare room.
func spoilBytes(b []byte) {
	for i := range b[:cap(b)] {
		b[:cap(b)][i] = 0xEE
	}
}

func spoilEntries(l []api.Entry) {
	for i := range l[:cap(l)] {
		l[:cap(l)][i] = api.Entry{Perms: 2, Who: id("name:eve")}
	}
}

func spoilNodes(l []api.Node) {
	for _, n := range l {
		spoilBytes(n.Data)
		spoilEntries(n.Acl)
	}
	for i := range l[:cap(l)] {
		l[:cap(l)][i] = api.Node{Path: "/spoilt"}
	}
}

func spoilResult(x api.Result) {
	spoilBytes(x.Data)
	spoilEntries(x.Acl)
	for i := range x.Names[:cap(x.Names)] {
		x.Names[:cap(x.Names)][i] = "spoilt"
	}
	for _, r := range x.Results {
		spoilResult(r)
	}
	for i := range x.Results[:cap(x.Results)] {
		x.Results[:cap(x.Results)][i] = api.Result{Err: 99}
	}
}

// roomy is a request with lists that have spare room, and all of them filled.
func roomy() api.Request {
	data := append(make([]byte, 0, 30), "data"...)
	l := append(make([]api.Entry, 0, 9), list("31 auth:", "31 world:anyone")...)
	who := append(make([]api.Id, 0, 9), ids("name:ann", "ip:1.1.1.1")...)
	return api.Request{Kind: api.Create, Path: "/r", Data: data, Acl: l, Who: who}
}

// spoilRequest writes over all that a request holds.
func spoilRequest(r api.Request) {
	spoilBytes(r.Data)
	spoilEntries(r.Acl)
	for i := range r.Who[:cap(r.Who)] {
		r.Who[:cap(r.Who)][i] = id("name:eve")
	}
	for i, op := range r.Ops {
		spoilRequest(op)
		r.Ops[i] = api.Request{Kind: 99}
	}
}

// requests are some of every kind that writes, with all lists that they have.
func requests() []api.Request {
	r := roomy()
	plain := func(op api.Request) api.Request { op.Who, op.Session = nil, 0; return op }
	inner := plain(roomy())
	inner.Path = "/r/m"
	wrong := plain(roomy())
	wrong.Path = "none"
	return []api.Request{
		r,
		{Kind: api.SetData, Path: "/r", Data: append(make([]byte, 0, 9), 1, 2), Who: ids("name:ann")},
		{Kind: api.SetAcl, Path: "/r", Acl: append(make([]api.Entry, 0, 9), list("31 name:ann", "1 auth:")...), Who: ids("name:ann")},
		{Kind: api.Check, Path: "/r", Who: ids("name:ann"), Version: -1},
		{Kind: api.Multi, Who: ids("name:ann"), Ops: []api.Request{inner, {Kind: api.SetData, Path: "/r/m", Data: []byte{3}}, {Kind: api.SetAcl, Path: "/r/m", Acl: list("1 auth:")}}},
		{Kind: api.Multi, Who: ids("name:ann"), Ops: []api.Request{{Kind: api.SetData, Path: "/r", Data: []byte{4}, Version: -1}, wrong}},
		open(5),
		{Kind: api.Create, Path: "/r/e", Ephemeral: true, Session: 1<<32 + 7, Data: []byte{5}, Who: ids("name:ann")},
		{Kind: api.Delete, Path: "/r/m", Version: 1, Who: ids("name:ann")},
		closing(1<<32 + 7),
	}
}

// TestNothingKept: what is handed to a tree stays as it was, and what becomes of it later is nothing to the tree.
func TestNothingKept(t *testing.T) {
	a, b := ztree.New(), ztree.New()
	for i, r := range requests() {
		at := z(uint32(i + 1))
		kept := txn.Clone(api.Txn{Req: r})
		x, l := a.Apply(api.Txn{Zxid: at, Req: r})
		if !txn.Same(kept, api.Txn{Req: r}) || r.Data != nil && cap(r.Data) > len(r.Data) && r.Data[:cap(r.Data)][len(r.Data)] != 0 {
			t.Errorf("R5: Apply changed request %d", i)
		}
		spoilRequest(r)
		y, m := b.Apply(api.Txn{Zxid: at, Req: requests()[i]})
		if !alike(x, y) || !slices.Equal(l, m) || !ztree.Same(a, b) {
			t.Errorf("R5: request %d is kept: %+v, %+v", i, x, y)
		}
		// what it answered may be written over as well
		spoilResult(x)
		for k := range l[:cap(l)] {
			l[:cap(l)][k] = api.Change{Kind: 99, Path: "spoilt"}
		}
		if !ztree.Same(a, b) || !sameNodes(a.Nodes(), b.Nodes()) {
			t.Errorf("R5: what Apply answered to request %d is the tree's own", i)
		}
	}
}

// TestFromKeepsNothing: nodes and sessions that From was handed stay, and are not kept.
func TestFromKeepsNothing(t *testing.T) {
	p, q := sound().sorted(), sound().sorted()
	tree, e := ztree.From(p.last, p.nodes, p.sessions)
	if e != api.OK || !sameNodes(p.nodes, q.nodes) || !slices.Equal(p.sessions, q.sessions) {
		t.Fatalf("R5: From: %d, or what it was handed has changed", e)
	}
	spoilNodes(p.nodes)
	for i := range p.sessions {
		p.sessions[i] = api.Session{}
	}
	if !sameNodes(tree.Nodes(), q.nodes) || !slices.Equal(tree.Sessions(), q.sessions) {
		t.Errorf("R5: From keeps what it was handed")
	}
	(&play{t, tree}).apply(set("/a", "other", -1))
	(&play{t, tree}).apply(setAcl("/a", -1, "1 name:eve"))
	if r := sound().sorted(); !sameNodes(q.nodes, r.nodes) {
		t.Errorf("R5: a tree writes over what From was handed")
	}
}

// TestAnswersAreNew: all that a tree tells may be written over.
func TestAnswersAreNew(t *testing.T) {
	p := sound().sorted()
	tree, _ := ztree.From(p.last, p.nodes, p.sessions)
	want := tree.Twin()
	spoilNodes(tree.Nodes())
	l := tree.Sessions()
	for i := range l[:cap(l)] {
		l[:cap(l)][i] = api.Session{Id: 9}
	}
	o := tree.Owned(first)
	for i := range o[:cap(o)] {
		o[:cap(o)][i] = "spoilt"
	}
	for kind := api.GetData; kind <= api.GetAcl; kind++ {
		for _, text := range []string{"/", "/a", "/a/c", "/c"} {
			spoilResult(tree.Ask(ask(kind, text)))
		}
	}
	if !ztree.Same(tree, want) || !sameNodes(tree.Nodes(), sound().sorted().nodes) || !slices.Equal(tree.Sessions(), p.sessions) || !slices.Equal(tree.Owned(first), []string{"/a/c"}) {
		t.Errorf("R5: an answer is the tree's own")
	}
	// no two lists of one answer share any
	nodes := tree.Nodes()
	for i := range nodes {
		others := slices.Delete(tree.Nodes(), i, i+1)
		nodes = tree.Nodes()
		spoilBytes(nodes[i].Data)
		spoilEntries(nodes[i].Acl)
		if !sameNodes(slices.Delete(nodes, i, i+1), others) {
			t.Errorf("R5: two lists of Nodes share memory, that of node %d", i)
		}
	}
}

// TestTwin: a twin is the same, and goes its own way.
func TestTwin(t *testing.T) {
	for i, r := range requests() {
		a := ztree.New()
		for k, q := range requests()[:i] {
			a.Apply(api.Txn{Zxid: z(uint32(k + 1)), Req: q})
		}
		b, c := a.Twin(), a.Twin()
		if !ztree.Same(a, b) || b.Last() != a.Last() || !sameNodes(a.Nodes(), b.Nodes()) || !slices.Equal(a.Sessions(), b.Sessions()) || a == b {
			t.Errorf("P7.5: Twin is not the same ahead of request %d", i)
		}
		x, _ := a.Apply(api.Txn{Zxid: z(uint32(i + 1)), Req: r})
		if !ztree.Same(b, c) || b.Last() != z(uint32(i)) && i > 0 || ztree.Same(a, b) {
			t.Errorf("P7.5: a twin is told of request %d", i)
		}
		y, _ := b.Apply(api.Txn{Zxid: z(uint32(i + 1)), Req: requests()[i]})
		if !ztree.Same(a, b) || !alike(x, y) {
			t.Errorf("P7.5: a twin does otherwise with request %d: %+v, %+v", i, x, y)
		}
		spoilNodes(a.Nodes())
		b.Apply(api.Txn{Zxid: z(90), Req: by(set("/r", "other", -1), "name:ann")})
		b.Apply(api.Txn{Zxid: z(91), Req: by(remove("/r", -1), "name:ann")})
		b.Apply(api.Txn{Zxid: z(92), Req: open(7)})
		if a.Last() != z(uint32(i+1)) || len(a.Sessions()) > 1 {
			t.Errorf("P7.5: request %d: what is done to a twin is done to the tree", i)
		}
	}
}

// TestSame: trees that differ in one thing alone are not the same.
func TestSame(t *testing.T) {
	base := func() *parts { return sound().sorted() }
	tree := func(p *parts) *ztree.Tree {
		x, e := ztree.From(p.last, p.nodes, p.sessions)
		if e != api.OK {
			t.Errorf("P7.2: From: %d of %+v", e, p)
		}
		return x
	}
	a := tree(base())
	if !ztree.Same(a, a) || !ztree.Same(a, tree(base())) {
		t.Errorf("P7.5: Same of the same: false")
	}
	for what, change := range map[string]func(*parts){
		"Last":            func(p *parts) { p.last.N++ },
		"Last's epoch":    func(p *parts) { p.last.Epoch++ },
		"a path":          func(p *parts) { p.at("/c").Path = "/d" },
		"a node more":     func(p *parts) { p.at("/").Stat.Count = 4; p.nodes = append(p.nodes, node("/d")) },
		"a node less":     func(p *parts) { p.at("/").Stat.Count = 2; p.nodes = p.nodes[:5] },
		"data":            func(p *parts) { p.at("/a").Data[2]++ },
		"no data":         func(p *parts) { holds("")(p.at("/a")) },
		"an entry":        func(p *parts) { p.at("/c").Acl = list("30 world:anyone") },
		"another id":      func(p *parts) { p.at("/c").Acl = list("31 name:ann") },
		"an order":        func(p *parts) { slices.Reverse(p.at("/a/b").Acl) },
		"an entry more":   func(p *parts) { p.at("/c").Acl = list("31 world:anyone", "31 name:ann") },
		"Made":            func(p *parts) { p.at("/c").Stat.Made.N++ },
		"Changed":         func(p *parts) { p.at("/c").Stat.Changed.N++ },
		"Childs":          func(p *parts) { p.at("/c").Stat.Childs.N++ },
		"Version":         func(p *parts) { p.at("/c").Stat.Version++ },
		"Cversion":        func(p *parts) { p.at("/c").Stat.Cversion++ },
		"Aversion":        func(p *parts) { p.at("/c").Stat.Aversion++ },
		"Owner":           func(p *parts) { p.at("/c").Stat.Owner = first },
		"Next":            func(p *parts) { p.at("/c").Next++ },
		"the root's Next": func(p *parts) { p.at("/").Next++ },
		"a Timeout":       func(p *parts) { p.sessions[1].Timeout++ },
		"a session":       func(p *parts) { p.sessions[1].Id++ },
		"a session less":  func(p *parts) { p.sessions = slices.Delete(p.sessions, 1, 2) },
		"a session more":  func(p *parts) { p.sessions = slices.Insert(p.sessions, 2, api.Session{Id: 1<<32 + 3, Timeout: 1}) },
	} {
		p := base()
		change(p)
		b := tree(p)
		if ztree.Same(a, b) || ztree.Same(b, a) || !ztree.Same(b, b.Twin()) {
			t.Errorf("P7.5: Same, where %s differs", what)
		}
	}
}

// TestNoTree: of a nil tree, and of one that the package's calls did not make.
func TestNoTree(t *testing.T) {
	sound := ztree.New()
	for what, none := range map[string]*ztree.Tree{"nil": nil, "plain": {}, "new": new(ztree.Tree)} {
		for _, r := range append(requests(), api.Request{}) {
			if x, l := none.Apply(api.Txn{Zxid: z(1), Req: r}); !alike(x, api.Result{Err: api.ErrArg}) || len(l) > 0 {
				t.Errorf("R3: %s: Apply: %+v, %v", what, x, l)
			}
		}
		for _, r := range []api.Request{{}, ask(api.GetData, "/"), ask(api.Exists, "/"), ask(api.List, "/"), ask(api.GetAcl, "/"), create("/a")} {
			if x := none.Ask(r); !alike(x, api.Result{Err: api.ErrArg}) {
				t.Errorf("R3: %s: Ask: %+v", what, x)
			}
		}
		if none.Last() != zero || len(none.Nodes()) > 0 || len(none.Sessions()) > 0 || len(none.Owned(0)) > 0 || len(none.Owned(first)) > 0 || none.Twin() != nil {
			t.Errorf("R3: %s: it tells something", what)
		}
		if ztree.Same(none, none) || ztree.Same(none, sound) || ztree.Same(sound, none) || ztree.Same(none, nil) || ztree.Same(nil, none) || ztree.Same(none, new(ztree.Tree)) {
			t.Errorf("R3: %s: Same", what)
		}
	}
	if !bytes.Equal(sound.Ask(ask(api.GetData, "/")).Data, nil) || !ztree.Same(sound, ztree.New()) {
		t.Errorf("R3: a tree beside them has changed")
	}
}
