package ztree_test

import (
	"slices"
	"strings"
	"testing"

	"lagoon/api"
	"lagoon/ztree"
)

// asks looks what a tree answers, and that it stays as it was.
func asks(t *testing.T, tree *ztree.Tree, r api.Request, want api.Result) {
	t.Helper()
	before := tree.Twin()
	if x := tree.Ask(r); !alike(x, want) {
		t.Errorf("P7.4: %+v: %+v, not %+v", r, x, want)
	}
	if !ztree.Same(tree, before) {
		t.Errorf("P7.4: %+v has changed the tree", r)
	}
}

func TestAsk(t *testing.T) {
	p := few(t)
	for _, text := range paths(p.tree.Nodes()) {
		n := p.at(text)
		asks(t, p.tree, ask(api.Exists, text), api.Result{Stat: n.Stat})
		if text == "/none" || strings.HasPrefix(text, "/hers") {
			continue
		}
		asks(t, p.tree, ask(api.GetData, text), api.Result{Stat: n.Stat, Data: n.Data})
		asks(t, p.tree, ask(api.GetAcl, text), api.Result{Stat: n.Stat, Acl: n.Acl})
	}
	for text, names := range map[string][]string{"/": {"a", "e", "hers", "none"}, "/a": {"x"}, "/a/x": nil, "/e": nil} {
		asks(t, p.tree, ask(api.List, text), api.Result{Stat: p.at(text).Stat, Names: names})
	}
	asks(t, p.tree, ask(api.List, "/hers", "name:ann"), api.Result{Stat: p.at("/hers").Stat, Names: []string{"x", "z"}})
}

// TestListRises: last names rise as bytes do, also where their paths would lie otherwise.
func TestListRises(t *testing.T) {
	p := begin(t)
	for _, text := range []string{"/b", "/a", "/a-", "/a/x", "/a/x/y", "/é", "/Z", "/a.b", "/ab", "/0", "/ab/c", "/a/-"} {
		p.apply(create(text))
	}
	asks(t, p.tree, ask(api.List, "/"), api.Result{Stat: p.at("/").Stat, Names: []string{"0", "Z", "a", "a-", "a.b", "ab", "b", "é"}})
	asks(t, p.tree, ask(api.List, "/a"), api.Result{Stat: p.at("/a").Stat, Names: []string{"-", "x"}})
	if l := paths(p.tree.Nodes()); !slices.IsSorted(l) || len(l) != 13 {
		t.Errorf("P7.5: Nodes: %v", l)
	}
}

// TestAskRefused: of each reason, a request for which it and all behind it hold that can.
func TestAskRefused(t *testing.T) {
	p := few(t)
	for kind := api.GetData; kind <= api.GetAcl; kind++ {
		for _, c := range []struct {
			r    api.Request
			want api.Errno
		}{
			{api.Request{Kind: kind, Path: "x", Session: first + 1, Version: 1}, api.ErrTxn},
			{api.Request{Kind: kind, Path: strings.Repeat("x", 65)}, api.ErrTxn},
			{api.Request{Kind: kind, Path: "/a", Session: -1}, api.ErrTxn},
			{api.Request{Kind: kind, Path: "/a", Who: make([]api.Id, 5)}, api.ErrTxn},
			{in(first+1, ask(kind, "x", "name:")), api.ErrSession},
			{ask(kind, "x", "name:"), api.ErrPath},
			{ask(kind, ""), api.ErrPath},
			{ask(kind, "/a/"), api.ErrPath},
			{ask(kind, "/no", "name:"), api.ErrNoNode},
			{ask(kind, "/a/x/y"), api.ErrNoNode},
			{ask(kind, "/a/x/y/z"), api.ErrNoNode},
		} {
			asks(t, p.tree, c.r, api.Result{Err: c.want})
		}
		if kind == api.Exists { // for which nothing is needed, ids that may be neither
			asks(t, p.tree, ask(kind, "/none"), api.Result{Stat: p.at("/none").Stat})
			asks(t, p.tree, ask(kind, "/a", "name:"), api.Result{Stat: p.at("/a").Stat})
			continue
		}
		for _, r := range []api.Request{ask(kind, "/none"), ask(kind, "/hers", "name:bob"), ask(kind, "/hers"), ask(kind, "/a", "name:"), ask(kind, "/a", "world:anyone")} {
			asks(t, p.tree, r, api.Result{Err: api.ErrAuth})
		}
	}
	for kind := int8(-3); kind < api.GetData; kind++ {
		asks(t, p.tree, api.Request{Kind: kind}, api.Result{Err: api.ErrTxn})
	}
	asks(t, p.tree, api.Request{Kind: 13}, api.Result{Err: api.ErrTxn})
	for _, r := range []api.Request{create("/n"), sequence("/n"), remove("/a/x", 1), set("/a", "", -1), setAcl("/a", -1), check("/a", -1), multi(create("/n")), open(5), closing(first), in(first+1, create("/n"))} {
		asks(t, p.tree, r, api.Result{Err: api.ErrTxn})
	}
}

// TestAskPermissions: which permission each kind needs, of all that a list may give.
func TestAskPermissions(t *testing.T) {
	for perms := int8(1); perms <= api.PermAll; perms++ {
		n := node("/")
		n.Acl = []api.Entry{{Perms: perms, Who: id("ip:10.0.0.0/8")}}
		tree := from(t, nil, n)
		read, admin := perms&api.PermRead != 0, perms&api.PermAdmin != 0
		for kind, may := range map[int8]bool{api.GetData: read, api.List: read, api.GetAcl: read || admin, api.Exists: true} {
			want := api.ErrAuth
			if may {
				want = api.OK
			}
			if x := tree.Ask(ask(kind, "/", "name:ann", "ip:10.9.8.7")); x.Err != want {
				t.Errorf("P7.4: kind %d with permissions %d: %d", kind, perms, x.Err)
			}
			if x := tree.Ask(ask(kind, "/", "name:ann", "ip:11.9.8.7")); (x.Err == api.OK) != (kind == api.Exists) {
				t.Errorf("P7.4: kind %d without permissions: %d", kind, x.Err)
			}
		}
	}
	// one of the two is enough, from whichever entry; of both halves neither makes the other
	tree := from(t, nil, node("/", keeps("16 name:ann", "1 name:bob", "14 world:anyone")))
	for who, want := range map[string]api.Errno{"name:ann": api.OK, "name:bob": api.OK, "name:eve": api.ErrAuth} {
		if x := tree.Ask(ask(api.GetAcl, "/", who)); x.Err != want {
			t.Errorf("P7.4: GetAcl for %s: %d", who, x.Err)
		}
	}
}
