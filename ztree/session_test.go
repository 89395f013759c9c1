package ztree_test

import (
	"math"
	"slices"
	"testing"

	"lagoon/api"
)

func TestOpen(t *testing.T) {
	p := begin(t)
	for i, timeout := range []int32{1, 7, api.MaxTimeout} {
		id := int64(first + i)
		if x := p.does(open(timeout)); !alike(x, api.Result{Session: id}) {
			t.Errorf("P7.3: Open: %+v", x)
		}
	}
	want := []api.Session{{Id: first, Timeout: 1}, {Id: first + 1, Timeout: 7}, {Id: first + 2, Timeout: api.MaxTimeout}}
	if l := p.tree.Sessions(); !slices.Equal(l, want) {
		t.Errorf("P7.5: Sessions: %v", l)
	}
	if l := p.tree.Nodes(); !sameNodes(l, []api.Node{{Path: "/", Acl: everybody()}}) {
		t.Errorf("P7.3: Open changed the nodes: %+v", l)
	}
	greatest := api.Zxid{Epoch: api.LastEpoch, N: api.LastCounter}
	if x, _ := p.tree.Apply(api.Txn{Zxid: greatest, Req: open(5)}); x.Session != math.MaxInt64 {
		t.Errorf("P7.3: Open at the greatest zxid: %+v", x)
	}
}

func TestMaxSessions(t *testing.T) {
	p := begin(t)
	for range api.MaxSessions {
		p.does(open(3))
	}
	p.refuses(open(3), api.ErrLarge)
	p.does(closing(first + 5))
	p.does(open(3))
	p.refuses(open(3), api.ErrLarge)
	if l := p.tree.Sessions(); len(l) != api.MaxSessions || l[len(l)-1].Id != first+66 || l[5].Id != first+6 {
		t.Errorf("P7.5: Sessions: %v", l)
	}
}

func TestMaxNodes(t *testing.T) {
	p := begin(t)
	for range api.MaxNodes - 1 {
		if x, _ := p.apply(sequence("/n")); x.Err != api.OK {
			t.Fatalf("P7.3: Create: %+v", x)
		}
	}
	p.refuses(create("/more"), api.ErrLarge)
	p.refuses(sequence("/n"), api.ErrLarge)
	p.refuses(multi(create("/more")), api.ErrLarge)
	p.does(multi(remove("/n0000000007", 0), create("/more")), append(gone("/n0000000007", "/"), made("/more", "/")...)...)
	p.refuses(multi(remove("/n0000000008", 0), create("/m"), create("/o")), api.ErrLarge)
	if l := p.tree.Nodes(); len(l) != api.MaxNodes || l[0].Stat.Count != api.MaxNodes-1 || l[0].Stat.Cversion != api.MaxNodes+1 {
		t.Errorf("P7.3: %d nodes, the root %+v", len(l), l[0])
	}
	p.does(remove("/more", 0), gone("/more", "/")...)
	p.does(create("/again"), made("/again", "/")...)
	p.refuses(create("/more"), api.ErrLarge)
}

// TestClose: ephemeral nodes whose names lie among others go from the greatest path to the least, and no others.
func TestClose(t *testing.T) {
	p := begin(t)
	p.does(open(9))
	p.does(open(9))
	const other = first + 1
	for _, text := range []string{"/a", "/b", "/a/m", "/b/m"} {
		r := create(text)
		p.apply(in(first, r))
	}
	for _, text := range []string{"/c", "/a/k", "/b/z", "/a-", "/a/m/e", "/0", "/a/z"} {
		p.apply(ephemeral(text, first))
	}
	for _, text := range []string{"/bb", "/a/l", "/z", "/b/a"} {
		p.apply(ephemeral(text, other))
	}
	want := []string{"/0", "/a-", "/a/k", "/a/m/e", "/a/z", "/b/z", "/c"}
	if l := p.tree.Owned(first); !slices.Equal(l, want) {
		t.Errorf("P7.5: Owned: %v", l)
	}
	if l := p.tree.Owned(other); !slices.Equal(l, []string{"/a/l", "/b/a", "/bb", "/z"}) {
		t.Errorf("P7.5: Owned: %v", l)
	}
	before := map[string]api.Stat{}
	for _, n := range p.tree.Nodes() {
		before[n.Path] = n.Stat
	}
	changes := slices.Concat(gone("/c", "/"), gone("/b/z", "/b"), gone("/a/z", "/a"), gone("/a/m/e", "/a/m"), gone("/a/k", "/a"), gone("/a-", "/"), gone("/0", "/"))
	if x := p.does(closing(first), changes...); !alike(x, api.Result{}) {
		t.Errorf("P7.3: Close: %+v", x)
	}
	if l := paths(p.tree.Nodes()); !slices.Equal(l, []string{"/", "/a", "/a/l", "/a/m", "/b", "/b/a", "/b/m", "/bb", "/z"}) {
		t.Errorf("P7.3: what Close left: %v", l)
	}
	lost := map[string]int32{"/": 3, "/a": 2, "/a/m": 1, "/b": 1}
	for _, n := range p.tree.Nodes() {
		s := before[n.Path]
		if many := lost[n.Path]; many > 0 {
			s.Cversion, s.Count, s.Childs = s.Cversion+many, s.Count-int(many), p.tree.Last()
		}
		if n.Stat != s {
			t.Errorf("P7.3: behind Close %q is %+v, not %+v", n.Path, n.Stat, s)
		}
	}
	if l := p.tree.Sessions(); !slices.Equal(l, []api.Session{{Id: other, Timeout: 9}}) || len(p.tree.Owned(first)) > 0 {
		t.Errorf("P7.5: behind Close: %v, %v", l, p.tree.Owned(first))
	}
	p.refuses(closing(first), api.ErrSession)
	p.does(closing(other), slices.Concat(gone("/z", "/"), gone("/bb", "/"), gone("/b/a", "/b"), gone("/a/l", "/a"))...)
	if len(p.tree.Sessions()) > 0 || p.at("/").Stat.Count != 2 {
		t.Errorf("P7.3: behind the last Close: %v", p.tree.Sessions())
	}
}

// TestCloseAsksNobody: what a Close takes away is like a Delete that nothing refuses.
func TestCloseAsksNobody(t *testing.T) {
	p := &play{t, from(t, sessions, node("/", counts(1), keeps("1 name:ann"), versions(0, -2, 0)), node("/e", owned(first), versions(5, 6, 7), keeps("1 name:bob")))}
	p.refuses(remove("/e", -1), api.ErrAuth)
	p.does(closing(first), gone("/e", "/")...)
	if s := p.at("/").Stat; s.Cversion != 0 || s.Count != 0 {
		t.Errorf("P7.3: behind Close: %+v", s)
	}
}

// TestNoSession: every kind that names a session is refused where there is none, ahead of all else.
func TestNoSession(t *testing.T) {
	p := few(t)
	for _, session := range []int64{1, first - 1, first + 1, 1 << 32, math.MaxInt64} {
		for _, r := range []api.Request{create("x"), sequence("x"), remove("x", 9), set("x", "", 9), setAcl("x", 9, "0 x:y"), check("x", 9), multi(create("x"))} {
			if x := p.refuses(in(session, r), api.ErrSession); len(x.Results) > 0 {
				t.Errorf("P7.3: of a session that is not there: %+v", x)
			}
		}
		p.refuses(closing(session), api.ErrSession)
		for kind := api.GetData; kind <= api.GetAcl; kind++ {
			if x := p.tree.Ask(in(session, ask(kind, "x"))); !alike(x, api.Result{Err: api.ErrSession}) {
				t.Errorf("P7.4: kind %d of a session that is not there: %+v", kind, x)
			}
		}
	}
	p.does(in(first, create("/n")), made("/n", "/")...)
	p.does(in(first, multi(check("/", -1))))
	if x := p.tree.Ask(in(first, ask(api.Exists, "/a"))); x.Err != api.OK {
		t.Errorf("P7.4: of a session that is there: %+v", x)
	}
}

// TestOwned: of a session that is not there, and of nobody, there is none.
func TestOwned(t *testing.T) {
	p := few(t)
	if l := p.tree.Owned(first); !slices.Equal(l, []string{"/e"}) {
		t.Errorf("P7.5: Owned: %v", l)
	}
	for _, session := range []int64{0, -1, 1, first + 1, math.MinInt64} {
		if l := p.tree.Owned(session); len(l) > 0 {
			t.Errorf("P7.5: Owned(%d): %v", session, l)
		}
	}
}
