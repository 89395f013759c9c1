package ztree_test

import (
	"math"
	"slices"
	"strconv"
	"testing"

	"lagoon/api"
	"lagoon/ztree"
)

// TestMulti: requests that build on each other, with the result of each.
func TestMulti(t *testing.T) {
	p := few(t)
	r := in(first, multi(
		create("/m"), sequence("/m/s"), set("/m", "xy", 0), check("/m", 1),
		api.Request{Kind: api.Create, Path: "/m/e", Ephemeral: true}, remove("/m/s0000000000", 0), setAcl("/m", 0, "1 world:anyone"), check("/m", -1)))
	changes := slices.Concat(made("/m", "/"), made("/m/s0000000000", "/m"), changed("/m"), made("/m/e", "/m"), gone("/m/s0000000000", "/m"))
	x := p.does(r, changes...)
	at := z(101)
	fresh := api.Stat{Made: at, Changed: at, Childs: at}
	withChild := fresh
	withChild.Cversion, withChild.Count, withChild.Version, withChild.Size = 1, 1, 1, 2
	mine := fresh
	mine.Owner = first
	atLast := withChild
	atLast.Cversion, atLast.Aversion = 3, 1
	want := []api.Result{{Path: "/m", Stat: fresh}, {Path: "/m/s0000000000", Stat: fresh}, {Stat: withChild}, {}, {Path: "/m/e", Stat: mine}, {}, {Stat: atLast}, {}}
	if !alike(x, api.Result{Results: want}) {
		t.Errorf("P7.3: Multi: %+v", x)
	}
	n := p.at("/m")
	if n.Stat != atLast || n.Next != 1 || string(n.Data) != "xy" || !slices.Equal(n.Acl, list("1 world:anyone")) || !slices.Equal(p.tree.Owned(first), []string{"/e", "/m/e"}) {
		t.Errorf("P7.3: Multi: /m is %+v", n)
	}
}

func TestMultiOfOne(t *testing.T) {
	for _, r := range []api.Request{create("/n"), sequence("/a/n"), remove("/a/x", 1), set("/a", "q", 3), setAcl("/a", 5), check("/a", 3)} {
		p, q := few(t), few(t)
		x, l := p.apply(r)
		y, m := q.apply(multi(r))
		if x.Err != api.OK || !alike(y, api.Result{Results: []api.Result{x}}) || !slices.Equal(l, m) || !ztree.Same(p.tree, q.tree) {
			t.Errorf("P7.3: a Multi of %+v: %+v, %v", r, y, m)
		}
	}
	for _, r := range []api.Request{create("/a"), sequence("q"), remove("/a", 3), set("/a", "q", 4), setAcl("/hers", 5), check("/none", 3)} {
		p := few(t)
		x, _ := few(t).apply(r)
		y := p.refuses(multi(r), x.Err)
		if x.Err == api.OK || !slices.Equal(errorsOf(t, y), []api.Errno{x.Err}) {
			t.Errorf("P7.3: a Multi of %+v: %+v", r, y)
		}
	}
}

// refusals are requests that are refused in every state of few, each with its error.
var refusals = []struct {
	r api.Request
	e api.Errno
}{
	{create("q"), api.ErrPath}, {create("/"), api.ErrExists}, {create("/no/no"), api.ErrNoNode}, {create("/hers/n"), api.ErrAuth},
	{create("/e/n"), api.ErrEphem}, {ephemeral("/n", 0), api.ErrSession}, {create("/none"), api.ErrExists},
	{api.Request{Kind: api.Create, Path: "/n", Acl: list("0 world:anyone")}, api.ErrAcl},
	{remove("/", -1), api.ErrPath}, {remove("/hers/x", -1), api.ErrAuth}, {remove("/e", 9), api.ErrVersion}, {remove("/hers", -1), api.ErrNotEmpty},
	{set("/no", "", -1), api.ErrNoNode}, {setAcl("/e", 0, "0 world:anyone"), api.ErrAcl}, {check("/e", 1), api.ErrVersion},
}

// TestMultiRefused: the first, one in the middle, the last is refused; nothing but Last has changed.
func TestMultiRefused(t *testing.T) {
	good := []api.Request{
		create("/b"), set("/b", "1", 0), sequence("/b/"), remove("/a/x", 1), remove("/a", 3), create("/a"), setAcl("/", 0, "31 world:anyone", "1 name:ann"), set("/", "2", 0),
	}
	for many := 1; many <= api.MaxOps; many++ {
		for at := range many {
			for _, c := range refusals {
				ops := slices.Clone(good[:many])
				ops[at] = c.r
				p := few(t)
				x := p.refuses(multi(ops...), c.e)
				want := slices.Repeat([]api.Errno{api.ErrRolled}, many)
				// what was built on the one in its place is not done either
				want[at] = c.e
				if l := errorsOf(t, x); !slices.Equal(l, want) {
					t.Errorf("P7.3: a Multi of %d, the %dth refused: %v, not %v", many, at, l, want)
				}
				fresh := few(t).tree
				fresh.Apply(api.Txn{Zxid: z(101), Req: create("q")})
				if !ztree.Same(p.tree, fresh) {
					t.Errorf("P7.3: a Multi of %d, the %dth refused, has changed the tree", many, at)
				}
			}
		}
	}
}

// TestMultiFirstRefused: where several would be refused the first one's error is told.
func TestMultiFirstRefused(t *testing.T) {
	for i, a := range refusals {
		for j, b := range refusals {
			p := few(t)
			x := p.refuses(multi(check("/", -1), a.r, b.r), a.e)
			if l := errorsOf(t, x); !slices.Equal(l, []api.Errno{api.ErrRolled, a.e, api.ErrRolled}) {
				t.Errorf("P7.3: refusals %d and %d: %v", i, j, l)
			}
		}
	}
}

// TestMultiTakenBack: nodes that came, went, came again and were changed several times are what they were.
func TestMultiTakenBack(t *testing.T) {
	fail := check("/", 77)
	for i, ops := range [][]api.Request{
		{create("/n"), remove("/n", 0), create("/n"), set("/n", "x", 0), create("/n/m"), remove("/n/m", 0), remove("/n", 1), fail},
		{remove("/a/x", -1), remove("/a", -1), create("/a"), create("/a/x"), set("/a", "new", 0), setAcl("/a", 0, "1 name:x"), fail},
		{remove("/e", 0), create("/e"), create("/e/below"), fail},
		{sequence("/a/"), sequence("/a/"), remove("/a/0000000006", 0), sequence("/a/"), fail},
		{set("/", "1", 0), set("/", "2", 1), set("/", "3", 2), setAcl("/", 0, "2 name:ann", "31 world:anyone"), set("/", "4", 3), fail},
		{setAcl("/", 0, "1 world:anyone"), create("/n"), fail},
	} {
		p := few(t)
		before := p.tree.Nodes()
		want := api.ErrVersion
		if i == 5 {
			want = api.ErrAuth // by the list that the one ahead of it has put
		}
		p.refuses(multi(ops...), want)
		if !sameNodes(before, p.tree.Nodes()) || !slices.Equal(p.tree.Owned(first), []string{"/e"}) {
			t.Errorf("P7.3: row %d: %+v", i, p.tree.Nodes())
		}
		again, e := ztree.From(p.tree.Last(), p.tree.Nodes(), p.tree.Sessions())
		if e != api.OK || !ztree.Same(again, p.tree) {
			t.Errorf("P7.2: row %d: what is left is no tree: %d", i, e)
		}
		// and it goes on as if nothing had been
		q := few(t)
		p.tree.Apply(api.Txn{Zxid: z(300), Req: sequence("/a/")})
		q.tree.Apply(api.Txn{Zxid: z(300), Req: sequence("/a/")})
		if !ztree.Same(p.tree, q.tree) {
			t.Errorf("P7.3: row %d: it goes on otherwise", i)
		}
	}
}

// TestMultiVersions: versions and numbers at their edges are counted on from one request to the next.
func TestMultiVersions(t *testing.T) {
	p := &play{t, from(t, nil, node("/", versions(math.MaxInt32, -3, -2), next(-2)))}
	p.does(multi(set("/", "", math.MaxInt32), set("/", "", math.MinInt32), setAcl("/", -2), setAcl("/", 0), sequence("/s"), sequence("/s"), sequence("/s")),
		slices.Concat(changed("/"), changed("/"), made("/s-000000002", "/"), made("/s-000000001", "/"), made("/s0000000000", "/"))...)
	n := p.at("/")
	if n.Stat.Version != math.MinInt32+1 || n.Stat.Cversion != 1 || n.Stat.Aversion != 1 || n.Next != 1 {
		t.Errorf("P7.3: Multi: %+v", n)
	}
}

// TestMultiMost: as many requests as may be, and one more.
func TestMultiMost(t *testing.T) {
	var ops []api.Request
	var changes []api.Change
	for i := range api.MaxOps {
		ops = append(ops, create("/"+strconv.Itoa(i)))
		changes = append(changes, made("/"+strconv.Itoa(i), "/")...)
	}
	p := begin(t)
	if x := p.does(multi(ops...), changes...); len(x.Results) != api.MaxOps || p.at("/").Stat.Count != api.MaxOps {
		t.Errorf("P7.3: Multi: %+v", x)
	}
	q := begin(t)
	for _, ops := range [][]api.Request{nil, {}, append(ops, create("/more"))} {
		x, l := q.tree.Apply(api.Txn{Zxid: z(1), Req: multi(ops...)})
		if !alike(x, api.Result{Err: api.ErrArg}) || len(l) > 0 || !ztree.Same(q.tree, ztree.New()) {
			t.Errorf("P7.3: a Multi of %d: %+v, %v", len(ops), x, l)
		}
	}
}
