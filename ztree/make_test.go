package ztree_test

import (
	"bytes"
	"slices"
	"strconv"
	"strings"
	"testing"

	"lagoon/api"
	"lagoon/txn"
	"lagoon/ztree"
)

// first is the number of the session that a play opens with its first transaction.
const first = 1<<32 + 1

var zero api.Zxid

func z(n uint32) api.Zxid { return api.Zxid{Epoch: 1, N: n} }

func id(s string) api.Id {
	scheme, name, _ := strings.Cut(s, ":")
	return api.Id{Scheme: scheme, Name: name}
}

func ids(l ...string) []api.Id {
	var out []api.Id
	for _, s := range l {
		out = append(out, id(s))
	}
	return out
}

// list is a list of entries, each a text as "31 name:ann".
func list(l ...string) []api.Entry {
	var out []api.Entry
	for _, s := range l {
		perms, who, _ := strings.Cut(s, " ")
		n, _ := strconv.Atoi(perms)
		out = append(out, api.Entry{Perms: int8(n), Who: id(who)})
	}
	return out
}

func everybody() []api.Entry { return list("31 world:anyone") }

// The requests, each with what the tests say of it most.

func create(p string) api.Request { return api.Request{Kind: api.Create, Path: p} }

func sequence(p string) api.Request {
	return api.Request{Kind: api.Create, Path: p, Sequence: true}
}

func ephemeral(p string, session int64) api.Request {
	return api.Request{Kind: api.Create, Path: p, Ephemeral: true, Session: session}
}

func remove(p string, version int32) api.Request {
	return api.Request{Kind: api.Delete, Path: p, Version: version}
}

func set(p, data string, version int32) api.Request {
	return api.Request{Kind: api.SetData, Path: p, Data: []byte(data), Version: version}
}

func setAcl(p string, version int32, l ...string) api.Request {
	return api.Request{Kind: api.SetAcl, Path: p, Acl: list(l...), Version: version}
}

func check(p string, version int32) api.Request {
	return api.Request{Kind: api.Check, Path: p, Version: version}
}

func multi(ops ...api.Request) api.Request { return api.Request{Kind: api.Multi, Ops: ops} }

func open(timeout int32) api.Request { return api.Request{Kind: api.Open, Timeout: timeout} }

func closing(session int64) api.Request { return api.Request{Kind: api.Close, Session: session} }

func ask(kind int8, p string, who ...string) api.Request {
	return api.Request{Kind: kind, Path: p, Who: ids(who...)}
}

// by is a request with the ids of who asks.
func by(r api.Request, who ...string) api.Request {
	r.Who = ids(who...)
	return r
}

// in is a request with the session on whose behalf it is.
func in(session int64, r api.Request) api.Request {
	r.Session = session
	return r
}

// The changes.

func made(p, up string) []api.Change {
	return []api.Change{{Kind: api.Made, Path: p}, {Kind: api.Childs, Path: up}}
}

func gone(p, up string) []api.Change {
	return []api.Change{{Kind: api.Gone, Path: p}, {Kind: api.Childs, Path: up}}
}

func changed(p string) []api.Change { return []api.Change{{Kind: api.Changed, Path: p}} }

// node is one that a Create of (1, 1) has made, with changes.
func node(p string, with ...func(*api.Node)) api.Node {
	n := api.Node{Path: p, Acl: everybody(), Stat: api.Stat{Made: z(1), Changed: z(1), Childs: z(1)}}
	for _, f := range with {
		f(&n)
	}
	return n
}

func counts(many int) func(*api.Node) { return func(n *api.Node) { n.Stat.Count = many } }

func owned(session int64) func(*api.Node) { return func(n *api.Node) { n.Stat.Owner = session } }

func keeps(l ...string) func(*api.Node) { return func(n *api.Node) { n.Acl = list(l...) } }

func next(k int32) func(*api.Node) { return func(n *api.Node) { n.Next = k } }

func holds(data string) func(*api.Node) {
	return func(n *api.Node) { n.Data, n.Stat.Size = []byte(data), len(data) }
}

func versions(data, childs, acl int32) func(*api.Node) {
	return func(n *api.Node) { n.Stat.Version, n.Stat.Cversion, n.Stat.Aversion = data, childs, acl }
}

// from is the tree of nodes and sessions behind (1, 100).
func from(t *testing.T, sessions []api.Session, nodes ...api.Node) *ztree.Tree {
	t.Helper()
	tree, e := ztree.From(z(100), nodes, sessions)
	if e != api.OK || tree == nil {
		t.Fatalf("P7.2: From(%v, %v): %d", nodes, sessions, e)
	}
	return tree
}

// play gives requests to a tree, each with the next zxid of its epoch.
type play struct {
	t    *testing.T
	tree *ztree.Tree
}

func begin(t *testing.T) *play { return &play{t, ztree.New()} }

// apply gives the tree a request, and looks at Last and at what no result may have.
func (p *play) apply(r api.Request) (api.Result, []api.Change) {
	p.t.Helper()
	at, e := txn.Next(api.Zxid{Epoch: max(1, p.tree.Last().Epoch), N: p.tree.Last().N}, api.LastCounter)
	if e != api.OK {
		p.t.Fatalf("no zxid behind %v", p.tree.Last())
	}
	x, l := p.tree.Apply(api.Txn{Zxid: at, Req: r})
	if p.tree.Last() != at {
		p.t.Errorf("P7.3: Last is %v behind %v", p.tree.Last(), at)
	}
	if bare := (api.Result{Err: x.Err, Results: x.Results}); x.Err != api.OK && (!alike(x, bare) || len(l) > 0) {
		p.t.Errorf("P7.3: %v: a result with an error has more: %+v, %v", r, x, l)
	}
	return x, l
}

// does looks that a request is done, with these changes.
func (p *play) does(r api.Request, changes ...api.Change) api.Result {
	p.t.Helper()
	x, l := p.apply(r)
	if x.Err != api.OK || !slices.Equal(l, changes) {
		p.t.Errorf("P7.3: %+v: %+v, %v, not %v", r, x, l, changes)
	}
	return x
}

// refuses looks that a request is refused with an error, and that nothing but Last has changed.
func (p *play) refuses(r api.Request, e api.Errno) api.Result {
	p.t.Helper()
	nodes, sessions := p.tree.Nodes(), p.tree.Sessions()
	x, _ := p.apply(r)
	if x.Err != e {
		p.t.Errorf("P7.3: %+v: error %d, not %d", r, x.Err, e)
	}
	if !sameNodes(p.tree.Nodes(), nodes) || !slices.Equal(p.tree.Sessions(), sessions) {
		p.t.Errorf("P7.3: %+v: was refused, and changed the tree to %+v, %v", r, p.tree.Nodes(), p.tree.Sessions())
	}
	return x
}

// at is the node at a path, as Nodes tells it.
func (p *play) at(text string) api.Node {
	p.t.Helper()
	l := p.tree.Nodes()
	i := slices.IndexFunc(l, func(n api.Node) bool { return n.Path == text })
	if i < 0 {
		p.t.Fatalf("P7.5: there is no node %q", text)
	}
	return l[i]
}

func (p *play) has(text string) bool {
	return slices.ContainsFunc(p.tree.Nodes(), func(n api.Node) bool { return n.Path == text })
}

func paths(l []api.Node) []string {
	var out []string
	for _, n := range l {
		out = append(out, n.Path)
	}
	return out
}

func sameNode(a, b api.Node) bool {
	return a.Path == b.Path && bytes.Equal(a.Data, b.Data) && slices.Equal(a.Acl, b.Acl) && a.Stat == b.Stat && a.Next == b.Next
}

func sameNodes(a, b []api.Node) bool { return slices.EqualFunc(a, b, sameNode) }

// alike tells whether two results are the same.
func alike(a, b api.Result) bool {
	return a.Err == b.Err && a.Path == b.Path && bytes.Equal(a.Data, b.Data) && slices.Equal(a.Acl, b.Acl) &&
		a.Stat == b.Stat && slices.Equal(a.Names, b.Names) && a.Session == b.Session && slices.EqualFunc(a.Results, b.Results, alike)
}

// errorsOf are the errors of a Multi's results, which then must have nothing else.
func errorsOf(t *testing.T, x api.Result) []api.Errno {
	t.Helper()
	var l []api.Errno
	for _, r := range x.Results {
		if !alike(r, api.Result{Err: r.Err}) {
			t.Errorf("P7.3: a result within a Multi that failed has more: %+v", r)
		}
		l = append(l, r.Err)
	}
	return l
}
