package ztree_test

import (
	"slices"
	"testing"

	"lagoon/api"
	"lagoon/ztree"
)

// TestExamples goes through the chapter's examples, one behind the other.
func TestExamples(t *testing.T) {
	p := begin(t)
	if x := p.does(open(9)); x.Session != 4294967297 || !alike(x, api.Result{Session: x.Session}) {
		t.Errorf("P7.3: example 1: Open: %+v", x)
	}
	a := create("/a")
	a.Data = []byte{7}
	stat := api.Stat{Made: z(2), Changed: z(2), Childs: z(2), Size: 1}
	if x := p.does(a, made("/a", "/")...); !alike(x, api.Result{Path: "/a", Stat: stat}) {
		t.Errorf("P7.3: example 1: Create: %+v", x)
	}
	if n := p.at("/"); n.Stat != (api.Stat{Cversion: 1, Childs: z(2), Count: 1}) || n.Next != 0 {
		t.Errorf("P7.3: example 1: the root: %+v", n)
	}
	for _, c := range []struct {
		r    api.Request
		want string
	}{
		{sequence("/a/n-"), "/a/n-0000000000"}, {sequence("/a/n-"), "/a/n-0000000001"},
		{sequence("/a/"), "/a/0000000002"}, {create("/a/n-"), "/a/n-"},
	} {
		if x := p.does(c.r, made(c.want, "/a")...); x.Path != c.want {
			t.Errorf("P7.3: example 2: %q, not %q", x.Path, c.want)
		}
	}
	if n := p.at("/a"); n.Next != 3 || n.Stat.Cversion != 4 {
		t.Errorf("P7.3: example 2: /a: %+v", n)
	}
	p.refuses(create("/b/c"), api.ErrNoNode)
	p.refuses(create("/a"), api.ErrExists)
	p.refuses(create("/"), api.ErrExists)
	p.refuses(create(""), api.ErrPath)
	p.refuses(remove("/a", 0), api.ErrNotEmpty)
	p.refuses(remove("/", 0), api.ErrPath)
	if x := p.does(set("/a", "", 0), changed("/a")...); x.Stat.Version != 1 {
		t.Errorf("P7.3: example 3: %+v", x)
	}
	p.refuses(set("/a", "", 0), api.ErrVersion)
	if x := p.does(set("/a", "", -1), changed("/a")...); x.Stat.Version != 2 {
		t.Errorf("P7.3: example 3: %+v", x)
	}
	p.refuses(ephemeral("/e", 0), api.ErrSession)
	if x := p.does(ephemeral("/e", first), made("/e", "/")...); x.Stat.Owner != first {
		t.Errorf("P7.3: example 4: %+v", x)
	}
	p.refuses(create("/e/x"), api.ErrEphem)
	p.does(closing(first), gone("/e", "/")...)
	p.refuses(in(first, create("/f")), api.ErrSession)
	exampleMulti(t, p)
	exampleAcl(t, p)
	last := p.tree.Last()
	if x, l := p.tree.Apply(api.Txn{Zxid: last, Req: create("/q")}); !alike(x, api.Result{Err: api.ErrArg}) || len(l) > 0 || p.tree.Last() != last {
		t.Errorf("P7.3: example 7: %+v, %v, Last %v", x, l, p.tree.Last())
	}
	if x := p.tree.Ask(create("/q")); !alike(x, api.Result{Err: api.ErrTxn}) {
		t.Errorf("P7.4: example 7: %+v", x)
	}
	if again, e := ztree.From(p.tree.Last(), p.tree.Nodes(), p.tree.Sessions()); e != api.OK || !ztree.Same(again, p.tree) {
		t.Errorf("P7.2: From of the examples' tree: %d", e)
	}
}

func exampleMulti(t *testing.T, p *play) {
	x := p.refuses(multi(create("/m"), create("/m/x"), check("/m", 1)), api.ErrVersion)
	if l := errorsOf(t, x); !slices.Equal(l, []api.Errno{api.ErrRolled, api.ErrRolled, api.ErrVersion}) || p.has("/m") {
		t.Errorf("P7.3: example 5: %v", l)
	}
	x = p.does(multi(create("/m"), create("/m/x"), check("/m", 0)), append(made("/m", "/"), made("/m/x", "/m")...)...)
	if len(x.Results) != 3 || p.at("/m").Stat.Cversion != 1 {
		t.Errorf("P7.3: example 5: %+v", x)
	}
}

func exampleAcl(t *testing.T, p *play) {
	r := create("/o")
	r.Acl, r.Data = list("1 name:ann"), []byte{5}
	p.does(r, made("/o", "/")...)
	stat := p.at("/o").Stat
	for _, c := range []struct {
		r    api.Request
		want api.Result
	}{
		{ask(api.GetData, "/o"), api.Result{Err: api.ErrAuth}},
		{ask(api.GetData, "/o", "name:ann"), api.Result{Data: []byte{5}, Stat: stat}},
		{ask(api.GetAcl, "/o", "name:ann"), api.Result{Acl: list("1 name:ann"), Stat: stat}},
		{ask(api.Exists, "/o"), api.Result{Stat: stat}},
	} {
		if x := p.tree.Ask(c.r); !alike(x, c.want) {
			t.Errorf("P7.4: example 6: %+v: %+v, not %+v", c.r, x, c.want)
		}
	}
	p.refuses(by(setAcl("/o", 0), "name:ann"), api.ErrAuth)
}
