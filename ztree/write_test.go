package ztree_test

import (
	"bytes"
	"math"
	"slices"
	"strings"
	"testing"

	"lagoon/api"
	"lagoon/ztree"
)

// few is a tree of nodes that some may do little with.
func few(t *testing.T) *play {
	return &play{t, from(t, sessions,
		node("/", counts(4)),
		node("/a", counts(1), versions(3, 4, 5), holds("abc"), next(6)),
		node("/a/x", versions(1, 2, 3)),
		node("/e", owned(first)),
		node("/hers", counts(2), versions(3, 4, 5), keeps("31 name:ann")),
		node("/hers/x", counts(1), keeps("31 world:anyone")),
		node("/hers/x/y"),
		node("/hers/z", keeps("8 name:ann")),
		node("/none", keeps("4 world:anyone"), versions(3, 4, 5)),
	)}
}

func TestDelete(t *testing.T) {
	p := few(t)
	if x := p.does(remove("/a/x", 1), gone("/a/x", "/a")...); !alike(x, api.Result{}) {
		t.Errorf("P7.3: Delete: %+v", x)
	}
	want := node("/a", versions(3, 5, 5), holds("abc"), next(6))
	want.Stat.Childs = z(101)
	if p.has("/a/x") || !sameNode(p.at("/a"), want) || p.at("/").Stat.Count != 4 || p.at("/").Stat.Childs != z(1) {
		t.Errorf("P7.3: Delete: /a is %+v, the root %+v", p.at("/a"), p.at("/"))
	}
	p.does(remove("/a", 3), gone("/a", "/")...)
	p.does(remove("/e", -1), gone("/e", "/")...) // an ephemeral one goes like any other
	if s := p.at("/").Stat; s.Count != 2 || s.Cversion != 2 || s.Childs != z(103) || len(p.tree.Owned(first)) > 0 {
		t.Errorf("P7.3: Delete: the root: %+v", s)
	}
	// who asks must be let by the parent alone
	p.does(by(remove("/hers/z", 0), "name:ann"), gone("/hers/z", "/hers")...)
	p.does(remove("/hers/x/y", 0), gone("/hers/x/y", "/hers/x")...)
	p.does(remove("/none", 3), gone("/none", "/")...)
	if l := paths(p.tree.Nodes()); !slices.Equal(l, []string{"/", "/hers", "/hers/x"}) {
		t.Errorf("P7.3: Delete: what is left: %v", l)
	}
	p.does(create("/a"), made("/a", "/")...) // and it comes anew
	if n := p.at("/a"); n.Stat.Version != 0 || n.Next != 0 || len(n.Data) > 0 {
		t.Errorf("P7.3: a node that comes anew: %+v", n)
	}
}

// TestDeleteRefused: of each reason, a request for which it and as many of those behind it hold as can.
func TestDeleteRefused(t *testing.T) {
	p := few(t)
	p.refuses(in(first+1, remove("x", 9)), api.ErrSession)
	p.refuses(remove("/none/", 9), api.ErrPath)
	p.refuses(remove("", 9), api.ErrPath)
	p.refuses(remove("/", 9), api.ErrPath)
	p.refuses(remove("/", -1), api.ErrPath)
	p.refuses(remove("/hers/no", 9), api.ErrNoNode)
	p.refuses(remove("/no/no", -1), api.ErrNoNode)
	p.refuses(remove("/hers/x", 9), api.ErrAuth)
	p.refuses(by(remove("/hers/x", 9), "name:bob"), api.ErrAuth)
	p.refuses(by(remove("/a", 9), "name:ann", "name:ann"), api.ErrAuth)
	p.refuses(by(remove("/hers/x", 9), "name:ann"), api.ErrVersion)
	p.refuses(remove("/a", 2), api.ErrVersion)
	p.refuses(remove("/a", 4), api.ErrVersion) // its Cversion does not matter
	p.refuses(remove("/a", 3), api.ErrNotEmpty)
	p.refuses(remove("/a", -1), api.ErrNotEmpty)
	p.refuses(remove("/e", 1), api.ErrVersion)
}

func TestSetData(t *testing.T) {
	p := few(t)
	x := p.does(set("/a", "hello", 3), changed("/a")...)
	want := node("/a", counts(1), versions(4, 4, 5), holds("hello"), next(6))
	want.Stat.Changed = z(101)
	if !sameNode(p.at("/a"), want) || !alike(x, api.Result{Stat: want.Stat}) {
		t.Errorf("P7.3: SetData: %+v, %+v", x, p.at("/a"))
	}
	if x := p.does(set("/a", "", -1), changed("/a")...); x.Stat.Version != 5 || x.Stat.Size != 0 || len(p.at("/a").Data) > 0 {
		t.Errorf("P7.3: SetData of nothing: %+v", x)
	}
	most := strings.Repeat("m", api.MaxData)
	if x := p.does(set("/a", most, 5), changed("/a")...); x.Stat.Size != api.MaxData || !bytes.Equal(p.at("/a").Data, []byte(most)) {
		t.Errorf("P7.3: SetData of all that may be: %+v", x)
	}
	if x := p.does(set("/", "r", 0), changed("/")...); x.Stat.Version != 1 || x.Stat.Count != 4 || x.Stat.Cversion != 0 {
		t.Errorf("P7.3: SetData of the root: %+v", x)
	}
	p.does(by(set("/hers", "x", 3), "name:ann"), changed("/hers")...)
	p.does(set("/e", "x", 0), changed("/e")...)
	if s := p.at("/e").Stat; s.Owner != first || s.Made != z(1) || s.Changed != z(106) || s.Childs != z(1) {
		t.Errorf("P7.3: SetData of an ephemeral node: %+v", s)
	}
}

func TestSetDataRefused(t *testing.T) {
	p := few(t)
	p.refuses(in(first+1, set("x", "", 9)), api.ErrSession)
	p.refuses(set("", "", 9), api.ErrPath)
	p.refuses(set("/hers/", "", 9), api.ErrPath)
	p.refuses(set("/no", "", 9), api.ErrNoNode)
	p.refuses(set("/hers", "", 9), api.ErrAuth)
	p.refuses(by(set("/", "", 9), "world:anyone"), api.ErrAuth)
	p.refuses(set("/none", "", 3), api.ErrAuth)
	for _, v := range []int32{2, 4, 5, 0, -2, math.MinInt32, math.MaxInt32} {
		p.refuses(set("/a", "", v), api.ErrVersion)
		p.refuses(by(set("/hers", "", v), "name:ann"), api.ErrVersion)
	}
}

func TestSetAcl(t *testing.T) {
	p := few(t)
	x := p.does(by(setAcl("/a", 5, "31 auth:", "1 ip:1.2.3.4/24"), "name:ann", "ip:9.9.9.9", "name:bob"))
	want := node("/a", counts(1), versions(3, 4, 6), holds("abc"), next(6), keeps("31 name:ann", "31 name:bob", "1 ip:1.2.3.4/24"))
	if !sameNode(p.at("/a"), want) || !alike(x, api.Result{Stat: want.Stat}) {
		t.Errorf("P7.3: SetAcl: %+v, %+v", x, p.at("/a"))
	}
	p.refuses(setAcl("/a", 6), api.ErrAuth) // it holds from then on
	if x := p.does(by(setAcl("/a", 6), "name:bob")); x.Stat.Aversion != 7 || !slices.Equal(p.at("/a").Acl, everybody()) {
		t.Errorf("P7.3: SetAcl of no entries: %+v, %+v", x, p.at("/a"))
	}
	if x := p.does(setAcl("/", -1, "3 world:anyone")); x.Stat.Aversion != 1 || x.Stat.Version != 0 {
		t.Errorf("P7.3: SetAcl of the root: %+v", x)
	}
	p.refuses(create("/b"), api.ErrAuth)
	p.refuses(remove("/none", -1), api.ErrAuth)
	p.refuses(setAcl("/", -1), api.ErrAuth)
	p.does(setAcl("/e", 0, "1 world:anyone"))
}

func TestSetAclRefused(t *testing.T) {
	p := few(t)
	bad := "32 world:anyone"
	p.refuses(in(first+1, setAcl("x", 9, bad)), api.ErrSession)
	p.refuses(setAcl("a", 9, bad), api.ErrPath)
	p.refuses(setAcl("/no", 9, bad), api.ErrNoNode)
	p.refuses(setAcl("/hers", 9, bad), api.ErrAuth)
	p.refuses(by(setAcl("/", 9, bad), "ip:1.1.1"), api.ErrAuth)
	p.refuses(setAcl("/a", 3, bad), api.ErrVersion) // its Version does not matter
	p.refuses(setAcl("/a", 4, bad), api.ErrVersion)
	p.refuses(setAcl("/a", -2, bad), api.ErrVersion)
	p.refuses(setAcl("/a", 5, bad), api.ErrAcl)
	p.refuses(setAcl("/a", -1, "1 auth:"), api.ErrAcl)
	p.refuses(by(setAcl("/a", -1, "1 auth:"), "ip:1.1.1.1"), api.ErrAcl)
	p.refuses(by(setAcl("/a", -1, "1 auth:", "1 name:a", "1 name:b", "1 name:c"), "name:d", "name:e"), api.ErrAcl)
}

func TestCheck(t *testing.T) {
	p := few(t)
	for _, r := range []api.Request{check("/a", 3), check("/a", -1), check("/", 0), check("/", -1), check("/e", 0), by(check("/hers", 3), "name:ann"), in(first, check("/a", 3))} {
		nodes := p.tree.Nodes()
		if x := p.does(r); !alike(x, api.Result{}) || !sameNodes(nodes, p.tree.Nodes()) {
			t.Errorf("P7.3: Check: %+v", x)
		}
	}
	p.refuses(in(first+1, check("x", 9)), api.ErrSession)
	p.refuses(check("x", 9), api.ErrPath)
	p.refuses(check("/no", -1), api.ErrNoNode)
	p.refuses(check("/hers", 9), api.ErrAuth)
	p.refuses(check("/none", 3), api.ErrAuth)
	p.refuses(by(check("/", 0), "name:"), api.ErrAuth)
	for _, v := range []int32{2, 4, 5, 0, -2, math.MinInt32, math.MaxInt32} {
		p.refuses(check("/a", v), api.ErrVersion)
	}
}

// TestPermissions: each kind asks for its own one, and for no other.
func TestPermissions(t *testing.T) {
	for perms := int8(1); perms <= api.PermAll; perms++ {
		list := []api.Entry{{Perms: perms, Who: id("name:ann")}}
		up, low := node("/", counts(1)), node("/a", counts(1))
		for _, c := range []struct {
			r    api.Request
			need int8
		}{
			{create("/a/y"), api.PermCreate},
			{sequence("/a/y"), api.PermCreate},
			{remove("/a/x", -1), api.PermDelete},
			{set("/a", "", -1), api.PermWrite},
			{setAcl("/a", -1), api.PermAdmin},
			{check("/a", -1), api.PermRead},
		} {
			low.Acl = list
			tree := from(t, nil, up, low, node("/a/x", keeps("31 name:bob")))
			want := api.OK
			if perms&c.need == 0 {
				want = api.ErrAuth
			}
			if x, _ := tree.Twin().Apply(api.Txn{Zxid: z(200), Req: c.r}); x.Err != api.ErrAuth {
				t.Errorf("P7.3: %+v for nobody: %d", c.r, x.Err)
			}
			if x, _ := tree.Twin().Apply(api.Txn{Zxid: z(200), Req: by(c.r, "name:ann")}); x.Err != want {
				t.Errorf("P7.3: %+v with permissions %d: %d, not %d", c.r, perms, x.Err, want)
			}
			// within a Multi who asks is the Multi's
			if x, _ := tree.Twin().Apply(api.Txn{Zxid: z(200), Req: by(multi(c.r), "name:ann")}); x.Err != want {
				t.Errorf("P7.3: a Multi of %+v with permissions %d: %d, not %d", c.r, perms, x.Err, want)
			}
		}
	}
}

// TestVersionsFit: a version asked for, held against versions at the edges.
func TestVersionsFit(t *testing.T) {
	edges := []int32{math.MinInt32, math.MinInt32 + 1, -3, -2, -1, 0, 1, 2, math.MaxInt32 - 1, math.MaxInt32}
	for _, has := range edges {
		for _, asked := range edges {
			want := api.ErrVersion
			if asked == -1 || asked == has {
				want = api.OK
			}
			tree := from(t, nil, node("/", counts(2)), node("/a", versions(has, 77, 78)), node("/b", versions(78, 79, has)))
			for _, r := range []api.Request{remove("/a", asked), set("/a", "", asked), check("/a", asked), setAcl("/b", asked)} {
				if x, _ := tree.Twin().Apply(api.Txn{Zxid: z(200), Req: r}); x.Err != want {
					t.Errorf("P7.3: %+v, where the version is %d: %d, not %d", r, has, x.Err, want)
				}
			}
		}
	}
}

// TestZxids: zero, below Last, that of Last, above it.
func TestZxids(t *testing.T) {
	p := few(t)
	for _, c := range []struct {
		at   api.Zxid
		want api.Errno
	}{
		{zero, api.ErrArg}, {z(1), api.ErrArg}, {z(99), api.ErrArg}, {z(100), api.ErrArg},
		{api.Zxid{Epoch: 1}, api.ErrArg}, {api.Zxid{N: 101}, api.ErrArg}, {api.Zxid{Epoch: 2}, api.ErrArg},
		{api.Zxid{Epoch: 1 << 31, N: 1}, api.ErrArg}, {api.Zxid{Epoch: math.MaxUint32, N: 1}, api.ErrArg},
		{z(101), api.OK}, {z(101), api.ErrArg}, {z(103), api.OK}, {z(102), api.ErrArg},
		{api.Zxid{Epoch: 2, N: 1}, api.OK}, {z(104), api.ErrArg}, {z(math.MaxUint32), api.ErrArg},
		{api.Zxid{Epoch: 2, N: 1}, api.ErrArg}, {api.Zxid{Epoch: 2, N: math.MaxUint32}, api.OK},
		{api.Zxid{Epoch: api.LastEpoch, N: math.MaxUint32}, api.OK}, {api.Zxid{Epoch: api.LastEpoch, N: math.MaxUint32}, api.ErrArg},
	} {
		before := p.tree.Twin()
		x, l := p.tree.Apply(api.Txn{Zxid: c.at, Req: set("/a", "x", -1)})
		if x.Err != c.want {
			t.Errorf("P7.3: zxid %v behind %v: %d, not %d", c.at, before.Last(), x.Err, c.want)
		}
		if x.Err == api.OK && (p.tree.Last() != c.at || x.Stat.Changed != c.at) {
			t.Errorf("P7.3: zxid %v: Last %v, %+v", c.at, p.tree.Last(), x)
		}
		if x.Err != api.OK && (!ztree.Same(p.tree, before) || len(l) > 0 || !alike(x, api.Result{Err: x.Err})) {
			t.Errorf("P7.3: zxid %v: was refused: %+v, %v, Last %v", c.at, x, l, p.tree.Last())
		}
	}
	q := begin(t)
	if x, _ := q.tree.Apply(api.Txn{Req: create("/a")}); x.Err != api.ErrArg {
		t.Errorf("P7.3: a zxid of zero: %+v", x)
	}
}

// TestMayNotBe: what is no transaction changes nothing, Last neither.
func TestMayNotBe(t *testing.T) {
	p := few(t)
	wide := create("/w")
	wide.Data = make([]byte, api.MaxData+1)
	many := create("/w")
	many.Acl = make([]api.Entry, api.MaxAcl+1)
	for i, x := range []api.Txn{
		{}, {Zxid: z(200)}, {Zxid: z(200), Req: api.Request{Kind: 13}}, {Zxid: z(200), Req: api.Request{Kind: -1}},
		{Zxid: z(200), Req: ask(api.GetData, "/a")}, {Zxid: z(200), Req: ask(api.Exists, "/a")},
		{Zxid: z(200), Req: ask(api.List, "/a")}, {Zxid: z(200), Req: ask(api.GetAcl, "/a")},
		{Zxid: z(200), Req: multi()}, {Zxid: z(200), Req: multi(multi(create("/w")))}, {Zxid: z(200), Req: multi(open(5))},
		{Zxid: z(200), Req: multi(closing(first))}, {Zxid: z(200), Req: multi(in(first, create("/w")))},
		{Zxid: z(200), Req: multi(slices.Repeat([]api.Request{check("/", -1)}, api.MaxOps+1)...)},
		{Zxid: z(200), Req: open(0)}, {Zxid: z(200), Req: open(api.MaxTimeout + 1)}, {Zxid: z(200), Req: closing(0)},
		{Zxid: z(200), Req: in(-1, create("/w"))}, {Zxid: z(200), Req: in(first, open(5))}, {Zxid: z(200), Req: wide}, {Zxid: z(200), Req: many},
		{Zxid: z(200), From: api.Origin{Server: 7}, Req: create("/w")}, {Zxid: z(200), From: api.Origin{Number: -1}, Req: create("/w")},
		{Zxid: z(200), Req: create("/" + strings.Repeat("x", 64))}, {Zxid: api.Zxid{Epoch: 1 << 31, N: 1}, Req: create("/w")},
	} {
		before := p.tree.Twin()
		r, l := p.tree.Apply(x)
		if !alike(r, api.Result{Err: api.ErrArg}) || len(l) > 0 || !ztree.Same(p.tree, before) {
			t.Errorf("P7.3: row %d, which may not be: %+v, %v, Last %v", i, r, l, p.tree.Last())
		}
	}
	// where it came from does not matter
	for i, o := range []api.Origin{{}, {Server: 6, Boot: math.MaxUint32, Number: math.MaxInt64}} {
		if x, _ := p.tree.Apply(api.Txn{Zxid: z(uint32(300 + i)), From: o, Req: check("/", -1)}); x.Err != api.OK {
			t.Errorf("P7.3: from %v: %+v", o, x)
		}
	}
}
