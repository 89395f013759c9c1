package ztree_test

import (
	"math"
	"math/rand/v2"
	"slices"
	"strings"
	"testing"

	"lagoon/api"
	"lagoon/txn"
	"lagoon/ztree"
)

// maker makes requests, of which about as many are done as refused.
type maker struct {
	*rand.Rand
	sessions []int64 // some that were opened, and may be closed
}

func newMaker(seed uint64) *maker { return &maker{Rand: rand.New(rand.NewPCG(seed, 7))} }

func pick[T any](m *maker, l ...T) T { return l[m.IntN(len(l))] }

func (m *maker) path() string {
	if m.IntN(12) == 0 {
		return pick(m, "", "a", "/a/", "//", "/./a", "/a\x00", strings.Repeat("/abc", 17)[:64], "/"+strings.Repeat("x", 25))
	}
	return pick(m, "/", "/a", "/a", "/b", "/b", "/c", "/a-", "/a/a", "/a/b", "/a/b", "/b/a", "/b/b", "/a/b/c", "/a/b/d", "/b/a/a", "/a/b/c/d", "/c/c")
}

func (m *maker) beginning() string {
	return pick(m, "/", "/s", "/a/", "/a/s", "/a/b/", "/b/s-", "/c/", "/none/", "", "s", "/a//", "/"+strings.Repeat("s", 14), "/a/"+strings.Repeat("s", 15))
}

func (m *maker) who() []api.Id {
	return pick(m, nil, nil, ids("name:ann"), ids("name:bob"), ids("name:ann", "ip:10.1.2.3"), ids("ip:10.1.9.9"), ids("name:bob", "name:ann"), ids("name:ANN"))
}

func (m *maker) acl() []api.Entry {
	if m.IntN(3) > 0 {
		return nil
	}
	return pick(m, list("31 world:anyone"), list("31 auth:"), list("1 world:anyone", "31 name:ann"), list("15 world:anyone", "16 auth:"),
		list("30 world:anyone"), list("13 world:anyone", "2 ip:10.1.0.0/16"), list("32 world:anyone"), list("27 world:anyone"), list("23 world:anyone", "8 auth:"))
}

func (m *maker) session() int64 {
	if m.IntN(2) == 0 || len(m.sessions) == 0 {
		return pick[int64](m, 0, 0, 0, 0, 0, 0, 0, first+999)
	}
	return pick(m, m.sessions...)
}

func (m *maker) version() int32 {
	return pick[int32](m, -1, -1, -1, -1, 0, 0, 1, 2, 3, -2, math.MinInt32, math.MaxInt32)
}

func (m *maker) data() []byte {
	b := make([]byte, pick(m, 0, 0, 1, 2, 5, api.MaxData))
	for i := range b {
		b[i] = byte(m.Uint32())
	}
	return b
}

// op is a request as a Multi has it.
func (m *maker) op() api.Request {
	switch m.IntN(10) {
	case 0, 1, 2:
		return api.Request{Kind: api.Create, Path: m.path(), Data: m.data(), Acl: m.acl(), Ephemeral: m.IntN(3) == 0}
	case 3:
		return api.Request{Kind: api.Create, Path: m.beginning(), Data: m.data(), Acl: m.acl(), Ephemeral: m.IntN(3) == 0, Sequence: true}
	case 4, 5:
		return api.Request{Kind: api.Delete, Path: m.path(), Version: m.version()}
	case 6, 7:
		return api.Request{Kind: api.SetData, Path: m.path(), Data: m.data(), Version: m.version()}
	case 8:
		return api.Request{Kind: api.SetAcl, Path: m.path(), Acl: m.acl(), Version: m.version()}
	}
	return api.Request{Kind: api.Check, Path: m.path(), Version: m.version()}
}

// many are a Multi's requests, of which those of every other one ask for nothing that is often refused.
func (m *maker) many() []api.Request {
	var l []api.Request
	easy := m.IntN(2) == 0
	for range 1 + m.IntN(pick(m, 2, 4, api.MaxOps)) {
		op := m.op()
		if easy && op.Kind != api.Create {
			op.Version = -1
		}
		if easy && op.Kind == api.Create {
			op = api.Request{Kind: api.Create, Path: pick(m, "/s", "/a/", "/x"), Data: op.Data, Sequence: true}
		}
		l = append(l, op)
	}
	return l
}

func (m *maker) request() api.Request {
	switch m.IntN(16) {
	case 0:
		return open(int32(1 + m.IntN(api.MaxTimeout)))
	case 1:
		return closing(max(1, m.session()))
	case 2, 3, 4:
		return api.Request{Kind: api.Multi, Session: m.session(), Who: m.who(), Ops: m.many()}
	case 5:
		return pick(m, open(0), ask(api.GetData, "/"), multi(), api.Request{Kind: 13}, api.Request{Kind: api.Delete, Data: []byte{1}})
	}
	r := m.op()
	r.Session, r.Who = m.session(), m.who()
	return r
}

func (m *maker) question() api.Request {
	return api.Request{Kind: int8(8 + m.IntN(6)), Path: m.path(), Session: m.session(), Who: m.who()}
}

// beside holds a tree and the model side by side.
type beside struct {
	t     *testing.T
	tree  *ztree.Tree
	model *model
	maker *maker
}

// begins starts both from the same parts.
func begins(t *testing.T, seed uint64, p *parts) *beside {
	tree, e := ztree.From(p.last, p.nodes, p.sessions)
	if e != api.OK {
		t.Fatalf("P7.2: From: %d", e)
	}
	m := &model{p.last, p.nodes, p.sessions}
	b := &beside{t, tree, m.copied(), newMaker(seed)}
	for _, s := range p.sessions {
		b.maker.sessions = append(b.maker.sessions, s.Id)
	}
	return b
}

// zxid is the next one, or one of the next epoch; at times one that is not above Last.
func (b *beside) zxid() api.Zxid {
	last := b.tree.Last()
	switch b.maker.IntN(20) {
	case 0:
		return pick(b.maker, last, zero, api.Zxid{Epoch: last.Epoch, N: last.N / 2}, api.Zxid{Epoch: last.Epoch + 1})
	case 1:
		return api.Zxid{Epoch: last.Epoch + 1, N: 1}
	}
	return api.Zxid{Epoch: max(1, last.Epoch), N: last.N + 1}
}

// step gives both the same transaction.
func (b *beside) step() {
	b.t.Helper()
	x := api.Txn{Zxid: b.zxid(), Req: b.maker.request()}
	before := b.tree.Nodes()
	got, changes := b.tree.Apply(txn.Clone(x))
	want, wanted := b.model.apply(x)
	if !alike(got, want) || !slices.Equal(changes, wanted) {
		b.t.Fatalf("P7.3: %+v: %+v, %v, not %+v, %v", x, got, changes, want, wanted)
	}
	if want.Session != 0 {
		b.maker.sessions = append(b.maker.sessions, want.Session)
		b.maker.sessions = b.maker.sessions[max(0, len(b.maker.sessions)-6):]
	}
	b.agree()
	if got.Err != api.OK && !sameNodes(before, b.tree.Nodes()) {
		b.t.Fatalf("P7.3: %+v: was refused with %d, and has changed the nodes", x, got.Err)
	}
}

// agree looks that both have the same.
func (b *beside) agree() {
	b.t.Helper()
	if b.tree.Last() != b.model.last || !sameNodes(b.tree.Nodes(), b.model.nodes) || !slices.Equal(b.tree.Sessions(), b.model.sessions) {
		b.t.Fatalf("P7.5: %v, %+v, %v, not %+v", b.tree.Last(), b.tree.Nodes(), b.tree.Sessions(), b.model)
	}
	for _, s := range b.maker.sessions {
		if l := b.tree.Owned(s); !slices.Equal(l, b.model.owned(s)) {
			b.t.Fatalf("P7.5: Owned(%d): %v, not %v", s, l, b.model.owned(s))
		}
	}
	if r := b.maker.question(); !alike(b.tree.Ask(r), b.model.ask(r)) {
		b.t.Fatalf("P7.4: %+v: %+v, not %+v", r, b.tree.Ask(r), b.model.ask(r))
	}
}

// renew puts a tree that must be the same in the tree's place: it has to go on as that would.
func (b *beside) renew() {
	b.t.Helper()
	again, e := ztree.From(b.tree.Last(), b.tree.Nodes(), b.tree.Sessions())
	if e != api.OK || !ztree.Same(again, b.tree) || !ztree.Same(again.Twin(), b.tree) {
		b.t.Fatalf("P7.2: From of what a tree tells: %d", e)
	}
	old := b.tree
	b.tree = pick(b.maker, again, b.tree.Twin(), b.tree)
	if b.tree != old { // what becomes of the other one is nothing to it
		old.Apply(api.Txn{Zxid: api.Zxid{Epoch: api.LastEpoch, N: 1}, Req: pick(b.maker, create("/z"), set("/", "zzz", -1), open(3), setAcl("/", -1, "1 name:z"))})
	}
}

func (b *beside) runs(steps int) {
	b.t.Helper()
	for i := range steps {
		b.step()
		if i%7 == 0 {
			b.renew()
		}
	}
}

// TestBeside: random transactions, from several beginnings.
func TestBeside(t *testing.T) {
	for seed := range uint64(12) {
		begins(t, seed, &parts{nodes: []api.Node{{Path: "/", Acl: everybody()}}}).runs(500)
		begins(t, seed+100, sound().sorted()).runs(300)
	}
}

// TestBesideEdges: versions and numbers near where they go round.
func TestBesideEdges(t *testing.T) {
	edges := []int32{math.MaxInt32 - 2, math.MaxInt32, math.MinInt32, -3, -2, -1, 0}
	for seed := range uint64(20) {
		m := newMaker(seed)
		v := func() int32 { return pick(m, edges...) }
		l := []api.Node{
			node("/", counts(3), versions(v(), v(), v()), next(v())),
			node("/a", counts(1), versions(v(), v(), v()), next(v())),
			node("/a/b", versions(v(), v(), v()), next(v())),
			node("/b", versions(v(), v(), v()), next(v())),
			node("/c", owned(first), versions(v(), v(), v()), next(v())),
		}
		begins(t, seed, &parts{z(9), l, sessions}).runs(100)
	}
}

// TestBesideLimits: trees with nearly all nodes and sessions that may be.
func TestBesideLimits(t *testing.T) {
	l := wide(api.MaxNodes - 4)
	begins(t, 1, &parts{api.Zxid{Epoch: 3, N: 1}, l, opened(api.MaxSessions - 1)}).runs(40)
	many := begins(t, 2, &parts{api.Zxid{Epoch: 3, N: 1}, wide(0), opened(api.MaxSessions - 2)})
	many.runs(300)
}

// ironed gives nodes in which all zxids above one are the same, as those of a Multi are.
func ironed(l []api.Node, above api.Zxid) []api.Node {
	late := api.Zxid{Epoch: api.LastEpoch, N: 9}
	for i := range l {
		for _, at := range []*api.Zxid{&l[i].Stat.Made, &l[i].Stat.Changed, &l[i].Stat.Childs} {
			if txn.Compare(*at, above) > 0 {
				*at = late
			}
		}
	}
	return l
}

// TestMultiOneByOne: a Multi does what its requests would do one by one, if none is refused; else nothing, and its error is the first's.
func TestMultiOneByOne(t *testing.T) {
	done, failed := 0, 0
	for seed := range uint64(6) {
		b := begins(t, seed+1000, sound().sorted())
		for range 150 {
			b.step()
			last := b.tree.Last()
			r := api.Request{Kind: api.Multi, Session: pick(b.maker, append(b.maker.sessions, 0)...), Who: b.maker.who(), Ops: b.maker.many()}
			whole, single := b.tree.Twin(), b.tree.Twin()
			x, _ := whole.Apply(api.Txn{Zxid: api.Zxid{Epoch: last.Epoch + 1, N: 1}, Req: r})
			if x.Err == api.ErrSession && len(x.Results) == 0 {
				continue
			}
			first := api.OK
			for i, op := range r.Ops {
				op.Session, op.Who = r.Session, r.Who
				y, _ := single.Apply(api.Txn{Zxid: api.Zxid{Epoch: last.Epoch + 1, N: uint32(i + 1)}, Req: op})
				if first = y.Err; first != api.OK {
					break
				}
			}
			if x.Err != first {
				t.Fatalf("P7.3: %+v: %d, one by one %d", r, x.Err, first)
			}
			want := ironed(single.Nodes(), last)
			if first != api.OK {
				want = b.tree.Nodes()
				failed++
			} else {
				done++
			}
			if !sameNodes(ironed(whole.Nodes(), last), want) || !slices.Equal(whole.Sessions(), b.tree.Sessions()) {
				t.Fatalf("P7.3: %+v: %+v, one by one %+v", r, whole.Nodes(), want)
			}
		}
	}
	if done < 30 || failed < 30 {
		t.Errorf("the test's own requests are too much alike: %d done, %d failed", done, failed)
	}
}

// TestNotLongerThanItsSession: behind a Close there is nothing of its session, and as long as it is open its nodes stay.
func TestNotLongerThanItsSession(t *testing.T) {
	b := begins(t, 77, sound().sorted())
	for range 1500 {
		b.step()
		open := b.tree.Sessions()
		for _, n := range b.tree.Nodes() {
			if n.Stat.Owner != 0 && !slices.ContainsFunc(open, func(s api.Session) bool { return s.Id == n.Stat.Owner }) {
				t.Fatalf("P7.3: %q is there longer than session %d", n.Path, n.Stat.Owner)
			}
		}
	}
}

// TestAsOften: the same transactions make the same tree, whatever was asked in between.
func TestAsOften(t *testing.T) {
	for seed := range uint64(5) {
		a, b := begins(t, seed, sound().sorted()), begins(t, seed, sound().sorted())
		quiet := newMaker(9)
		for range 200 {
			x := api.Txn{Zxid: a.zxid(), Req: a.maker.request()}
			r, l := a.tree.Apply(x)
			s, m := b.tree.Apply(x)
			if !alike(r, s) || !slices.Equal(l, m) || !ztree.Same(a.tree, b.tree) {
				t.Fatalf("R6: %+v: %+v, %+v", x, r, s)
			}
			a.tree.Ask(quiet.question())
			a.tree.Nodes()
			a.tree.Twin()
		}
	}
}
