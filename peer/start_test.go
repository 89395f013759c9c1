package peer_test

import (
	"math"
	"slices"
	"testing"

	"lagoon/api"
	"lagoon/disk"
	"lagoon/peer"
	"lagoon/snap"
	"lagoon/store"
	"lagoon/ztree"
)

// start is what Start is handed.
type start struct {
	c  api.Config
	me int8
	d  *disk.Disk
}

// fault turns one thing of it wrong.
type fault struct {
	rank int // the place in P24.2's order
	want api.Errno
	turn func(x *start)
}

func faults() []fault {
	var out []fault
	add := func(rank int, want api.Errno, turns ...func(x *start)) {
		for _, turn := range turns {
			out = append(out, fault{rank, want, turn})
		}
	}
	add(0, api.ErrArg,
		func(x *start) { x.d = nil }, func(x *start) { x.d = &disk.Disk{} },
		func(x *start) { x.c.Cache = -1 }, func(x *start) { x.c.Cache = 65 }, func(x *start) { x.c.Cache = math.MinInt },
		func(x *start) { x.c.Chunk = 0 }, func(x *start) { x.c.Chunk = -1 }, func(x *start) { x.c.Chunk = 4097 },
		func(x *start) { x.c.Segment = 0 }, func(x *start) { x.c.Segment = -1 }, func(x *start) { x.c.Segment = 65 },
		func(x *start) { x.c.LastEpoch = 0 }, func(x *start) { x.c.LastEpoch = 1 << 31 }, func(x *start) { x.c.LastEpoch = math.MaxUint32 },
		func(x *start) { x.c.LastCounter = 0 })
	add(1, api.ErrQuorum,
		func(x *start) { x.c.Weights = nil }, func(x *start) { x.c.Groups = x.c.Groups[:2] }, func(x *start) { x.c.Weights, x.c.Groups = nil, nil },
		func(x *start) { x.c.Weights = []int{0, 0, 0} }, func(x *start) { x.c.Weights[1] = 101 }, func(x *start) { x.c.Weights[1] = -1 }, func(x *start) { x.c.Groups[2] = 7 },
		func(x *start) { x.c.Weights, x.c.Groups = make([]int, 8), make([]int, 8); x.c.Weights[0] = 1 })
	add(2, api.ErrServer,
		func(x *start) { x.me = 3 }, func(x *start) { x.me = -1 }, func(x *start) { x.me = math.MinInt8 }, func(x *start) { x.me = math.MaxInt8 }, func(x *start) { x.me = 7 })
	add(3, api.ErrDown, func(x *start) { x.d.Off() })
	add(4, api.ErrState, func(x *start) { x.d.Append("manifest", []byte{1, 2}); x.d.Sync("manifest") })
	return out
}

// right is what Start takes.
func right() *start {
	d, _ := disk.New(10000)
	return &start{c: config(1, 1, 1), me: 1, d: d}
}

func (x *start) refused(t *testing.T, want api.Errno) {
	t.Helper()
	n := x.d.Writes()
	s, o, e := peer.Start(x.c, x.me, x.d)
	if s != nil || e != want || len(o.Facts)+len(o.Sends) > 0 || x.d.Writes() != n {
		t.Fatalf("P24.2: Start(%+v, %d) = %+v, %d, not %d; %d writes", x.c, x.me, o, e, want, x.d.Writes()-n)
	}
}

// TestStartRefuses: each fault by itself, and each two of them: the first that the chapter names.
func TestStartRefuses(t *testing.T) {
	for i, a := range faults() {
		x := right()
		a.turn(x)
		x.refused(t, a.want)
		for _, b := range faults()[i+1:] {
			if a.rank == b.rank {
				continue
			}
			x := right()
			b.turn(x)
			a.turn(x)
			if a.rank == 3 && b.rank == 4 && x.d.On() {
				t.Fatal("the disk has power")
			}
			x.refused(t, a.want)
		}
	}
}

// TestStartAtTheEdges: at each limit all is as below it; what the chapter does not look at may be anything.
func TestStartAtTheEdges(t *testing.T) {
	for i, turn := range []func(c *api.Config){
		func(c *api.Config) { c.Cache = 0 }, func(c *api.Config) { c.Cache = 64 },
		func(c *api.Config) { c.Chunk = 1 }, func(c *api.Config) { c.Chunk = 4096 },
		func(c *api.Config) { c.Segment = 1 }, func(c *api.Config) { c.Segment = 64 },
		func(c *api.Config) { c.LastEpoch = 1 }, func(c *api.Config) { c.LastEpoch = 1<<31 - 1 },
		func(c *api.Config) { c.LastCounter = 1 }, func(c *api.Config) { c.LastCounter = math.MaxUint32 },
		func(c *api.Config) { c.Room = -1 }, func(c *api.Config) { c.Room = math.MaxInt },
		func(c *api.Config) { c.Factor = math.NaN() }, func(c *api.Config) { c.Factor = math.Inf(1) }, func(c *api.Config) { c.Factor = -1 },
	} {
		x := right()
		turn(&x.c)
		s, o, e := peer.Start(x.c, x.me, x.d)
		if s == nil || e != api.OK || !slices.Equal(kindsOf(o.Facts), []int8{api.FactUpAgain}) || !s.Up() {
			t.Errorf("P24.2: the edge %d: Start = %+v, %d", i, o, e)
		}
	}
	for me := range int8(3) {
		x := right()
		if s, o, e := peer.Start(x.c, me, x.d); s == nil || e != api.OK || o.Facts[0].Server != me {
			t.Errorf("P24.2: Start of %d = %+v, %d", me, o, e)
		}
	}
}

// kept is a disk on which a server has a snapshot up to 1.2, a log behind it up to 2.1, and the epochs 4 and 2.
func kept(t *testing.T) *disk.Disk {
	t.Helper()
	d, _ := disk.New(10000)
	st, _ := store.Open(d, 4)
	tree := ztree.New()
	st.Accept(2)
	st.Lead(2)
	for i, at := range []api.Zxid{z(1, 1), z(1, 2), z(1, 3), z(2, 1)} {
		x := api.Txn{Zxid: at, Req: create("/" + string(rune('a'+i)))}
		st.Append(x)
		if i < 2 {
			tree.Apply(x)
		}
	}
	if e := st.Snapshot(tree); e != api.OK {
		t.Fatal(e)
	}
	st.Accept(4)
	return d
}

// TestStartAgain: what was durable is there; delivered and committed is the snapshot.
func TestStartAgain(t *testing.T) {
	x := right()
	x.d = kept(t)
	s, o, e := peer.Start(x.c, x.me, x.d)
	if e != api.OK || len(o.Sends) != 0 || len(o.Facts) != 1 || !sameFact(o.Facts[0], api.Fact{Kind: api.FactUpAgain, Server: 1, Zxid: z(2, 1), Snap: z(1, 2)}) {
		t.Fatalf("P24.2: Start = %+v, %d", o, e)
	}
	v := s.View()
	if v.State != api.Looking || v.Durable != (api.Durable{Boot: 2, Accepted: 4, Current: 2, Snap: z(1, 2), Last: z(2, 1)}) || v.Committed != z(1, 2) || v.Delivered != z(1, 2) || v.Serves || len(v.Log) != 2 {
		t.Errorf("P24.8: View = %+v", v)
	}
	if nodes := s.Tree().Nodes(); len(nodes) != 3 || snap.Write(s.Tree()) == nil {
		t.Errorf("P24.8: the tree has %v", nodes)
	}
}

// TestStartPower: wherever the power goes in a start there is no server; the next start that has its power finds all.
func TestStartPower(t *testing.T) {
	for _, had := range []bool{false, true} {
		for n, down := 0, true; down; n++ {
			d := kept(t)
			want := api.Durable{Boot: 1, Accepted: 4, Current: 2, Snap: z(1, 2), Last: z(2, 1)}
			if !had {
				d, _ = disk.New(10000)
				want = api.Durable{}
			}
			d.Arm(n)
			s, o, e := peer.Start(config(1), 0, d)
			down = e != api.OK
			if down && (s != nil || e != api.ErrDown || len(o.Facts) > 0) {
				t.Fatalf("P24.2: armed with %d: Start = %+v, %d", n, o, e)
			}
			if n == 0 && !down {
				t.Fatal("P24.2: a start that is not durable")
			}
			d.Off()
			d.Start(3, 3, 3)
			s, o, e = peer.Start(config(1), 0, d)
			if e != api.OK || len(o.Facts) != 1 {
				t.Fatalf("P24.2: behind the power that went at %d: Start = %+v, %d", n, o, e)
			}
			got := s.View().Durable
			boot := got.Boot
			got.Boot = want.Boot
			if got != want || boot < want.Boot+1 || boot > want.Boot+2 || !down && boot != want.Boot+2 {
				t.Fatalf("P24.2: behind the power that went at %d: %+v, boot %d", n, got, boot)
			}
		}
	}
}

// TestStartFull: a start that the disk has no room for is none.
func TestStartFull(t *testing.T) {
	for room := range 38 {
		d, _ := disk.New(room)
		if s, o, e := peer.Start(config(1), 0, d); s != nil || e != api.ErrFull || len(o.Facts) > 0 {
			t.Fatalf("P24.2: room %d: Start = %+v, %d", room, o, e)
		}
	}
	d, _ := disk.New(38)
	if _, _, e := peer.Start(config(1), 0, d); e != api.OK {
		t.Errorf("P24.2: a manifest's room: Start = %d", e)
	}
}
