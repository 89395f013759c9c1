package ztree_test

import (
	"bytes"
	"math"
	"slices"
	"strconv"
	"strings"
	"testing"

	"lagoon/api"
	"lagoon/ztree"
)

var sessions = []api.Session{{Id: first, Timeout: 5}}

// TestCreate: what is made, and what becomes of its parent.
func TestCreate(t *testing.T) {
	p := &play{t, from(t, sessions, node("/", counts(1), holds("r"), versions(3, 4, 5), next(6)), node("/a", versions(7, 8, 9), next(10), keeps("4 name:ann")))}
	r := by(in(first, create("/a/b")), "name:ann")
	r.Data, r.Acl = []byte("data"), list("31 auth:", "1 world:anyone")
	stat := api.Stat{Made: z(101), Changed: z(101), Childs: z(101), Size: 4}
	if x := p.does(r, made("/a/b", "/a")...); !alike(x, api.Result{Path: "/a/b", Stat: stat}) {
		t.Errorf("P7.3: Create: %+v", x)
	}
	want := []api.Node{
		node("/", counts(1), holds("r"), versions(3, 4, 5), next(6)),
		node("/a", counts(1), versions(7, 9, 9), next(10), keeps("4 name:ann")),
		{Path: "/a/b", Data: []byte("data"), Acl: list("31 name:ann", "1 world:anyone"), Stat: stat},
	}
	want[1].Stat.Childs = z(101)
	if l := p.tree.Nodes(); !sameNodes(l, want) {
		t.Errorf("P7.3: Create: the nodes are %+v", l)
	}
	r = ephemeral("/e", first)
	if x := p.does(r, made("/e", "/")...); x.Stat.Owner != first || p.at("/e").Stat != x.Stat || p.at("/").Stat.Owner != 0 {
		t.Errorf("P7.3: Create: an ephemeral node: %+v", x)
	}
	if x := p.does(in(first, create("/f")), made("/f", "/")...); x.Stat.Owner != 0 {
		t.Errorf("P7.3: Create: nobody's node has an owner: %+v", x)
	}
}

// TestCreateData: data of every number of bytes that may be, and one more.
func TestCreateData(t *testing.T) {
	p := begin(t)
	for n := range api.MaxData + 1 {
		r := create("/d" + strconv.Itoa(n))
		r.Data = bytes.Repeat([]byte{byte(n)}, n)
		x := p.does(r, made(r.Path, "/")...)
		if x.Stat.Size != n || !bytes.Equal(p.at(r.Path).Data, r.Data) {
			t.Errorf("P7.3: Create with %d bytes: %+v", n, x)
		}
	}
	r := create("/more")
	r.Data = make([]byte, api.MaxData+1)
	if x, l := p.tree.Apply(api.Txn{Zxid: api.Zxid{Epoch: 2, N: 1}, Req: r}); !alike(x, api.Result{Err: api.ErrArg}) || len(l) > 0 {
		t.Errorf("P7.3: Create with a byte too many: %+v, %v", x, l)
	}
}

// fullTree has all nodes that may be: an ephemeral one, one that only ann may create below, one whose next number has 11 bytes, and what follows.
func fullTree(t *testing.T) *play {
	l := wide(api.MaxNodes - 7)
	l[0].Stat.Count += 4
	l[0].Next = 5
	l = append(l, node("/ephemeral", owned(first)), node("/hers", keeps("27 world:anyone", "4 name:ann"), counts(1)),
		node("/hers/x"), node("/hersToo", owned(first), keeps("4 name:ann")), node("/low", next(math.MinInt32), counts(1)), node("/low/x"))
	slices.SortFunc(l, func(a, b api.Node) int { return strings.Compare(a.Path, b.Path) })
	return &play{t, from(t, sessions, l...)}
}

// TestCreateRefused: of each reason, a request for which it holds and all that come behind it and can hold beside it.
func TestCreateRefused(t *testing.T) {
	p := fullTree(t)
	bad := func(r api.Request) api.Request { r.Acl = list("0 world:anyone"); return r }
	temporary := func(r api.Request) api.Request { r.Ephemeral = true; return r }
	for what, c := range map[string]struct {
		r    api.Request
		want api.Errno
	}{
		"a session that is not there, ahead of all": {bad(in(first+1, create("none"))), api.ErrSession},
		"a session that is not there, sequence":     {bad(in(first+1, sequence(""))), api.ErrSession},
		"no path":                                   {bad(temporary(create("/hersToo/"))), api.ErrPath},
		"no path: empty":                            {bad(temporary(create(""))), api.ErrPath},
		"no path: too long a name":                  {bad(temporary(create("/" + strings.Repeat("x", 25)))), api.ErrPath},
		"the root":                                  {bad(temporary(create("/"))), api.ErrExists},
		"no parent":                                 {bad(temporary(create("/none/x"))), api.ErrNoNode},
		"no parent, whose parent may not":           {bad(temporary(create("/hers/none/x"))), api.ErrNoNode},
		"may not":                                   {bad(temporary(create("/hers/x"))), api.ErrAuth},
		"may not, below an ephemeral node":          {bad(temporary(create("/hersToo/x"))), api.ErrAuth},
		"ids that may not be":                       {bad(temporary(by(create("/n10000/x"), "name:ANN"))), api.ErrAuth},
		"below an ephemeral node":                   {bad(temporary(create("/ephemeral/x"))), api.ErrEphem},
		"below an ephemeral node, for its owner":    {bad(ephemeral("/ephemeral/x", first)), api.ErrEphem},
		"nobody's ephemeral":                        {bad(temporary(create("/n10000"))), api.ErrSession},
		"nobody's ephemeral, may":                   {bad(temporary(by(create("/hers/x"), "name:ann"))), api.ErrSession},
		"there":                                     {bad(create("/n10000")), api.ErrExists},
		"there, ephemeral":                          {bad(ephemeral("/ephemeral", first)), api.ErrExists},
		"no list":                                   {bad(create("/n")), api.ErrAcl},
		"no name for auth":                          {by(api.Request{Kind: api.Create, Path: "/n", Acl: list("1 auth:")}, "ip:1.1.1.1"), api.ErrAcl},
		"too many nodes":                            {create("/n"), api.ErrLarge},
		"too many nodes, ephemeral":                 {ephemeral("/n", first), api.ErrLarge},
		"sequence: no path":                         {bad(temporary(sequence("hersToo"))), api.ErrPath},
		"sequence: empty":                           {bad(temporary(sequence(""))), api.ErrPath},
		"sequence: too long":                        {bad(temporary(sequence("/none/" + strings.Repeat("x", 15)))), api.ErrPath},
		"sequence: two slashes":                     {bad(temporary(sequence("/a//"))), api.ErrPath},
		"sequence: no parent":                       {bad(temporary(sequence("/none/x"))), api.ErrNoNode},
		"sequence: no parent, no name":              {bad(temporary(sequence("/none/"))), api.ErrNoNode},
		"sequence: may not":                         {bad(temporary(sequence("/hers/"))), api.ErrAuth},
		"sequence: below an ephemeral node":         {bad(temporary(sequence("/ephemeral/"))), api.ErrEphem},
		"sequence: nobody's ephemeral, too long":    {bad(temporary(sequence("/low/" + strings.Repeat("x", 14)))), api.ErrSession},
		"sequence: too long with its number":        {bad(sequence("/low/" + strings.Repeat("x", 14))), api.ErrPath},
		"sequence: no list":                         {bad(sequence("/low/" + strings.Repeat("x", 13))), api.ErrAcl},
		"sequence: too many nodes":                  {sequence("/"), api.ErrLarge},
		"sequence: too many nodes, ephemeral too":   {temporary(in(first, sequence("/a"))), api.ErrLarge},
	} {
		t.Run(what, func(t *testing.T) { (&play{t, p.tree}).refuses(c.r, c.want) })
	}
	p.does(remove("/hers/x", -1), gone("/hers/x", "/hers")...)
	p.does(create("/n"), made("/n", "/")...)
	p.refuses(create("/o"), api.ErrLarge)
}

// TestSequence: numbers of ten bytes or more, ahead of them a name's beginning or none.
func TestSequence(t *testing.T) {
	for _, c := range []struct {
		path string
		next int32
		want string
		on   int32
	}{
		{"/a/", 0, "/a/0000000000", 1},
		{"/a/x", 7, "/a/x0000000007", 8},
		{"/a/.", 0, "/a/.0000000000", 1},
		{"/a/..", 0, "/a/..0000000000", 1},
		{"/a/n", math.MaxInt32, "/a/n2147483647", math.MinInt32},
		{"/a/n", math.MinInt32, "/a/n-2147483648", math.MinInt32 + 1},
		{"/a/n", -2, "/a/n-000000002", -1},
		{"/a/n", -1, "/a/n-000000001", 0},
		{"/a/" + strings.Repeat("x", 14), 0, "/a/" + strings.Repeat("x", 14) + "0000000000", 1},
		{"/a/" + strings.Repeat("x", 14), -1, "/a/" + strings.Repeat("x", 14) + "-000000001", 0},
		{"/a/" + strings.Repeat("x", 13), math.MinInt32, "/a/" + strings.Repeat("x", 13) + "-2147483648", math.MinInt32 + 1},
	} {
		p := &play{t, from(t, sessions, node("/", counts(1)), node("/a", next(c.next)))}
		if x := p.does(sequence(c.path), made(c.want, "/a")...); x.Path != c.want || p.at("/a").Next != c.on || p.at("/").Next != 0 || p.at(c.want).Next != 0 {
			t.Errorf("P7.3: a Sequence of %q and %d: %+v, Next %d", c.path, c.next, x, p.at("/a").Next)
		}
	}
}

// TestSequenceTooLong: the path with its number is too long, with 0 or with the number that is next.
func TestSequenceTooLong(t *testing.T) {
	deep := "/" + strings.Repeat("a", 24) + "/" + strings.Repeat("b", 24) // 50 bytes
	l := []api.Node{node("/", counts(1)), node(deep[:25], counts(1)), node(deep, next(math.MinInt32))}
	p := &play{t, from(t, nil, l...)}
	p.refuses(sequence(deep+"/xxxx"), api.ErrPath) // 55 and 10 bytes
	p.refuses(sequence(deep+"/xxx"), api.ErrPath)  // 54 and 11
	p.does(sequence(deep+"/xx"), made(deep+"/xx-2147483648", deep)...)
	p = &play{t, from(t, nil, l[0], l[1], node(deep, next(9)))}
	p.refuses(sequence(deep+"/xxxx"), api.ErrPath)
	p.does(sequence(deep+"/xxx"), made(deep+"/xxx0000000009", deep)...)
	p.refuses(sequence(strings.Repeat("/a", 32)), api.ErrPath)
}

// TestSequenceThere: a number that is taken is refused, and Next stays.
func TestSequenceThere(t *testing.T) {
	p := begin(t)
	p.does(create("/s0000000000"), made("/s0000000000", "/")...)
	p.refuses(sequence("/s"), api.ErrExists)
	p.does(sequence("/t"), made("/t0000000000", "/")...)
	p.does(sequence("/s"), made("/s0000000001", "/")...)
	p.does(remove("/s0000000001", 0), gone("/s0000000001", "/")...)
	p.does(sequence("/s"), made("/s0000000002", "/")...)
	p.does(create("/s0000000001"), made("/s0000000001", "/")...)
	if n := p.at("/"); n.Next != 3 || n.Stat.Cversion != 6 || n.Stat.Count != 4 {
		t.Errorf("P7.3: the root: %+v", n)
	}
	r := sequence("/e")
	r.Ephemeral, r.Session = true, first
	p.refuses(r, api.ErrSession)
	q := begin(t)
	q.does(open(1))
	if x := q.does(r, made("/e0000000000", "/")...); x.Stat.Owner != first || !slices.Equal(q.tree.Owned(first), []string{"/e0000000000"}) {
		t.Errorf("P7.3: an ephemeral node of a sequence: %+v", x)
	}
}

// TestVersionsGoOn: each of the three versions at the edges.
func TestVersionsGoOn(t *testing.T) {
	for v, want := range map[int32]int32{
		math.MaxInt32: math.MinInt32, math.MinInt32: math.MinInt32 + 1, math.MaxInt32 - 1: math.MaxInt32,
		-3: -2, -2: 0, -1: 0, 0: 1, 1: 2,
	} {
		tree := from(t, nil, node("/", counts(1), versions(v, v, v), next(v)), node("/a"))
		p := &play{t, tree}
		p.does(create("/b"), made("/b", "/")...)
		if s := p.at("/").Stat; s.Version != v || s.Cversion != want || s.Aversion != v {
			t.Errorf("P7.3: behind Cversion %d, by a Create: %+v", v, s)
		}
		q := &play{t, from(t, nil, node("/", counts(1), versions(v, v, v)), node("/a"))}
		q.does(remove("/a", 0), gone("/a", "/")...)
		if s := q.at("/").Stat; s.Version != v || s.Cversion != want || s.Aversion != v {
			t.Errorf("P7.3: behind Cversion %d, by a Delete: %+v", v, s)
		}
		p.does(set("/", "", v), changed("/")...)
		if s := p.at("/").Stat; s.Version != want || s.Cversion != want || s.Aversion != v {
			t.Errorf("P7.3: behind Version %d: %+v", v, s)
		}
		p.does(setAcl("/", v))
		if s := p.at("/").Stat; s.Version != want || s.Cversion != want || s.Aversion != want || p.at("/").Next != v {
			t.Errorf("P7.3: behind Aversion %d: %+v", v, s)
		}
	}
}

// TestNamesOfSequences: children of a sequence bear unlike names, however they come and go.
func TestNamesOfSequences(t *testing.T) {
	p := begin(t)
	seen := map[string]int{}
	for i := range 300 {
		x, _ := p.apply(sequence([]string{"/", "/x", "/x0", "/y-"}[i%4]))
		if x.Err != api.OK || seen[x.Path] > 0 {
			t.Fatalf("P7.3: the %dth of a sequence: %+v", i, x)
		}
		seen[x.Path]++
		if i%3 == 0 {
			p.apply(remove(x.Path, -1))
		}
	}
	if !ztree.Same(p.tree, p.tree.Twin()) || p.at("/").Next != 300 {
		t.Errorf("P7.3: Next is %d", p.at("/").Next)
	}
}
