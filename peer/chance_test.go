package peer_test

import (
	"math/rand/v2"
	"slices"
	"testing"

	"lagoon/api"
	"lagoon/packet"
	"lagoon/txn"
)

// chance drives a world by numbers that are the same in each run.
type chance struct {
	*rand.Rand
	w      *world
	forges bool // packets that no server sent come, too
	cuts   bool // power goes
}

func seeded(n uint64) *rand.Rand { return rand.New(rand.NewPCG(n, 24)) }

func oneOf[T any](g *rand.Rand, l ...T) T { return l[g.IntN(len(l))] }

// configs are clusters of all sorts: weights, groups, what is at hand, what may be sent.
func configs() []api.Config {
	out := []api.Config{config(1), config(1, 1), config(1, 1, 1), config(1, 1, 1), config(1, 1, 1, 1, 1), config(1, 1, 0), config(3, 1, 1), config(0, 1)}
	grouped := config(1, 1, 1, 1, 1, 1, 0)
	grouped.Groups = []int{0, 0, 2, 2, 5, 5, 2}
	out = append(out, grouped)
	for i := range out {
		out[i].Cache = []int{0, 1, 4, 64, 0, 2, 0, 64, 1}[i]
		out[i].Factor = []float64{0.5, 0, 0.5, 1, 0, 0.3, 100, 0.1, 0.2}[i]
		out[i].Chunk = []int{64, 1, 4096, 100, 64, 30, 64, 64, 512}[i]
		out[i].Segment = []int{4, 1, 64, 2, 3, 4, 64, 64, 5}[i]
	}
	out[3].LastEpoch, out[3].LastCounter = 5, 6
	return out
}

func (g *chance) server() int8 { return int8(g.IntN(len(g.w.all))) }

func (g *chance) path() string {
	return oneOf(g.Rand, "/a", "/b", "/a/x", "/a/y", "/b/x", "/c", "/", "/a/x/z", "none")
}

// session is the number of one that may be there.
func (g *chance) session() int64 {
	for _, p := range g.w.all {
		if p.m == nil || p.m.tree == nil {
			continue
		}
		if l := p.m.tree.Sessions(); len(l) > 0 && g.IntN(2) == 0 {
			return l[g.IntN(len(l))].Id
		}
	}
	return 1<<32 + int64(g.IntN(4))
}

func (g *chance) request() api.Request {
	r := api.Request{Path: g.path()}
	switch g.IntN(12) {
	case 0, 1, 2:
		r.Kind, r.Data = api.Create, make([]byte, g.IntN(4))
	case 3:
		r.Kind, r.Sequence = api.Create, true
	case 4:
		r.Kind, r.Ephemeral, r.Session = api.Create, true, g.session()
	case 5:
		r.Kind, r.Version = api.Delete, -1
	case 6, 7:
		return set(r.Path, "xyz")
	case 8:
		return rich(r.Path)
	case 9:
		return api.Request{Kind: api.Open, Timeout: int32(1 + g.IntN(9))}
	case 10:
		return api.Request{Kind: api.Close, Session: g.session()}
	default:
		return oneOf(g.Rand, get("/"), api.Request{}, api.Request{Kind: api.Open}, api.Request{Kind: api.Check, Path: "/a", Version: -1})
	}
	return r
}

// spoilt is a packet, or bytes, that nobody sent, in the manner of one that is under way.
func (g *chance) spoilt() {
	w := g.w
	x := message{from: g.server(), to: g.server()}
	if len(w.net) > 0 && g.IntN(8) > 0 {
		x = w.net[g.IntN(len(w.net))]
	}
	p, e := packet.Read(x.bytes)
	if e != api.OK || g.IntN(6) == 0 {
		b := slices.Clone(x.bytes)
		if len(b) > 0 {
			b[g.IntN(len(b))] ^= byte(1 + g.IntN(255))
		}
		w.hears(x.to, x.from, b)
		return
	}
	for range 1 + g.IntN(2) {
		g.turn(&p, x)
	}
	if b, e := packet.Write(p); e == api.OK {
		w.hears(x.to, oneOf(g.Rand, x.from, x.from, x.from, x.from, g.server()), b)
	}
}

func (g *chance) zxid() api.Zxid {
	for _, p := range g.w.all {
		if p.m == nil || g.IntN(2) == 0 {
			continue
		}
		if l := p.m.st.Log(); len(l) > 0 {
			return l[g.IntN(len(l))].Zxid
		}
	}
	return oneOf(g.Rand, z(0, 0), z(1, 1), z(2, 1), z(1, 2), z(9, 9), z(3, 1))
}

// turn makes a packet another one.
func (g *chance) turn(p *api.Packet, x message) {
	switch g.IntN(11) {
	case 0:
		p.Conn.Try += uint32(g.IntN(3)) - 1
	case 1:
		p.Lead.Try += uint32(g.IntN(3)) - 1
	case 2:
		p.Place += int64(g.IntN(3)) - 1
	case 3:
		p.Epoch = oneOf(g.Rand, p.Epoch-1, p.Epoch+1, 1, 2, 7)
	case 4:
		p.Current = oneOf(g.Rand, p.Current+1, 0)
	case 5:
		p.Zxid = g.zxid()
	case 6:
		p.Prev = g.zxid()
	case 7:
		p.Counted = !p.Counted
	case 8:
		p.Final = !p.Final
	case 9:
		if p.Kind == api.PDiff || p.Kind == api.PPropose {
			p.Txn.Zxid.Epoch += uint32(g.IntN(3))
			p.Txn.Zxid.N += uint32(g.IntN(2))
		}
	default:
		g.another(p)
	}
}

// another makes it one of another kind, with the numbers that it has.
func (g *chance) another(p *api.Packet) {
	q := api.Packet{Kind: int8(1 + g.IntN(14)), Conn: p.Conn, Lead: p.Lead, Place: p.Place}
	if q.Lead == (api.Conn{}) {
		q.Lead = api.Conn{Boot: 1, Try: 1}
	}
	switch q.Kind {
	case api.PInfo:
		q.Lead, q.Place, q.Epoch = api.Conn{}, 0, uint32(g.IntN(3))
	case api.PEpoch, api.PAckLeader:
		q.Epoch = uint32(1 + g.IntN(4))
	case api.PAckEpoch:
		q.Epoch, q.Current, q.Zxid, q.Counted = uint32(1+g.IntN(4)), uint32(g.IntN(4)), g.zxid(), g.IntN(2) == 0
	case api.PNewLeader:
		q.Epoch, q.Zxid = uint32(1+g.IntN(4)), g.zxid()
	case api.PDiff, api.PPropose:
		q.Prev = g.zxid()
		q.Txn = api.Txn{Zxid: q.Prev, Req: create("/f")}
		q.Txn.Zxid.N++
		q.Txn.Zxid.Epoch = max(1, q.Txn.Zxid.Epoch)
	case api.PChunk:
		q.Bytes, q.Final = []byte{1, 2, 3}, g.IntN(2) == 0
	case api.PForward:
		q.Txn = api.Txn{From: api.Origin{Server: g.server(), Boot: 1, Number: int64(1 + g.IntN(3))}, Req: create("/g")}
	case api.PPing:
		q.Session = g.session()
	default:
		q.Zxid = g.zxid()
	}
	*p = q
}

// event is one thing that happens.
func (g *chance) event() {
	w := g.w
	n := g.server()
	switch k := g.IntN(100); {
	case k < 50 && len(w.net) > 0:
		w.take(g.next())
	case k < 53 && len(w.net) > 0:
		x := w.net[g.IntN(len(w.net))]
		w.net = append(w.net, x)
	case k < 55 && len(w.net) > 0:
		i := g.IntN(len(w.net))
		w.net = slices.Delete(w.net, i, i+1)
	case k < 56 && g.IntN(4) == 0:
		g.elect()
	case k < 72:
		w.write(n, g.request())
	case k < 78:
		for range 1 + g.IntN(5) {
			w.tick(n)
		}
	case k < 79:
		w.do(n, api.Input{Kind: api.InSnap})
	case k < 80 && g.IntN(3) == 0:
		w.gives(n)
	case k < 84:
		w.do(n, api.Input{Kind: api.InPing, Session: g.session()})
	case k < 90:
		w.ask(n, oneOf(g.Rand, get(g.path()), api.Request{Kind: api.List, Path: "/a"}, create("/")), api.Watch{Client: int64(g.IntN(3)), Kind: int8(g.IntN(6)), Path: g.path()})
	case k < 93 && g.cuts:
		g.cut(n)
	case g.forges:
		g.spoilt()
	}
	for n := range w.all {
		if w.all[n].s == nil || !w.all[n].s.Up() {
			g.revives(int8(n))
		}
	}
}

// next is mostly the first message of those that go between two servers.
func (g *chance) next() int {
	i := g.IntN(len(g.w.net))
	if g.IntN(12) == 0 {
		return i
	}
	return slices.IndexFunc(g.w.net, func(x message) bool { return x.from == g.w.net[i].from && x.to == g.w.net[i].to })
}

// elect tells one to lead, and mostly all others to follow it.
func (g *chance) elect() {
	leader := g.server()
	if g.IntN(3) == 0 {
		g.w.follow(leader, g.server())
		return
	}
	g.w.follow(leader, leader)
	for n := range g.w.all {
		if int8(n) != leader && g.IntN(5) > 0 {
			g.w.follow(int8(n), leader)
		}
	}
}

func (g *chance) cut(n int8) {
	if g.IntN(3) == 0 {
		g.w.off(n)
		g.w.do(n, api.Input{Kind: api.InTick})
		return
	}
	g.w.arm(n, g.IntN(12))
}

// revives starts a server again, sooner or later.
func (g *chance) revives(n int8) {
	if g.IntN(3) > 0 {
		return
	}
	var keep []int
	for range 8 {
		keep = append(keep, g.IntN(80))
	}
	g.w.starts(n, keep...)
	if g.IntN(8) == 0 {
		g.w.arm(n, g.IntN(9))
	}
}

// TestByChance: whatever comes, in any order, each step is what the chapter says.
func TestByChance(t *testing.T) {
	seen := map[int8]int{}
	ways := map[int8]int{}
	for i, c := range configs() {
		for run := range uint64(40) {
			w := begun(t, c)
			had := make([]api.View, len(w.all))
			w.told = func(n int8, o api.Output, _ api.Errno) {
				had[n] = follows(t, w, n, had[n])
				for _, f := range o.Facts {
					seen[f.Kind]++
					ways[f.Way]++
				}
			}
			g := &chance{seeded(uint64(i)*1000 + run), w, run%4 > 1, run%2 == 1}
			for range 350 {
				g.event()
			}
		}
	}
	for kind := api.FactDelivered; kind <= api.FactUpAgain; kind++ {
		if seen[kind] == 0 && kind != api.FactDown {
			t.Errorf("no run told a fact of kind %d: %v", kind, seen)
		}
	}
	if ways[1] == 0 || ways[2] == 0 || ways[3] == 0 || ways[4] == 0 {
		t.Errorf("not all ways were gone: %v", ways)
	}
	t.Log(seen, ways)
}

// follows looks at what is never otherwise, whatever comes.
func follows(t *testing.T, w *world, n int8, had api.View) api.View {
	t.Helper()
	if !w.all[n].s.Up() {
		return had
	}
	v := w.view(n)
	falls := v.Durable.Boot == had.Durable.Boot && txn.Compare(v.Delivered, had.Delivered) < 0
	if v.Durable.Accepted < had.Durable.Accepted || v.Durable.Current < had.Durable.Current || v.Durable.Current > v.Durable.Accepted {
		t.Fatalf("P24: the epochs of server %d are %+v, were %+v", n, v.Durable, had.Durable)
	}
	if falls || txn.Compare(v.Delivered, v.Committed) > 0 || txn.Compare(v.Delivered, v.Durable.Snap) < 0 {
		t.Fatalf("P24: server %d has delivered up to %v, had up to %v: %+v", n, v.Delivered, had.Delivered, v)
	}
	return v
}
