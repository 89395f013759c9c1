package peer_test

import (
	"slices"
	"testing"

	"lagoon/api"
	"lagoon/packet"
)

// system is a configuration, and of some sets of servers whether they are a quorum.
type system struct {
	weights, groups []int
	quorums, none   [][]int8 // with the leader first
}

func systems() []system {
	return []system{
		{[]int{1}, []int{0}, [][]int8{{0}}, nil},
		{[]int{1, 1}, []int{0, 0}, [][]int8{{0, 1}, {1, 0}}, [][]int8{{0}, {1}}},
		{[]int{1, 1, 1}, []int{0, 0, 0}, [][]int8{{0, 1}, {2, 0}, {0, 1, 2}}, [][]int8{{0}, {2}}},
		{[]int{1, 1, 1, 1}, []int{0, 0, 0, 0}, [][]int8{{0, 1, 2}, {3, 2, 1, 0}}, [][]int8{{0, 1}, {2, 3}}},
		{[]int{3, 1, 1}, []int{0, 0, 0}, [][]int8{{0}, {0, 1}, {1, 0}, {2, 0}}, [][]int8{{1}, {1, 2}, {2, 1}}},
		{[]int{1, 1, 0}, []int{0, 0, 0}, [][]int8{{0, 1}, {1, 0, 2}}, [][]int8{{0, 2}, {1, 2}, {0}}},
		{[]int{0, 100, 0}, []int{0, 0, 3}, [][]int8{{1}, {1, 0, 2}}, nil},
		{[]int{1, 1, 1, 1, 1, 1}, []int{0, 0, 2, 2, 5, 5}, [][]int8{{0, 1, 2, 3}, {4, 5, 0, 1}, {2, 5, 3, 4}}, [][]int8{{0, 2, 4}, {0, 1}, {0, 1, 2, 4}, {3, 1, 5, 2}}},
		{[]int{1, 1, 1, 1, 0, 0}, []int{0, 0, 2, 2, 5, 5}, [][]int8{{0, 1, 2, 3}, {3, 5, 2, 1, 0, 4}}, [][]int8{{0, 1}, {0, 1, 2, 4, 5}, {2, 3, 4, 5}}},
	}
}

func (x system) config() api.Config {
	c := config(x.weights...)
	copy(c.Groups, x.groups)
	return c
}

// gathers lets the first of these servers lead, and the others follow it.
func gathers(t *testing.T, c api.Config, servers []int8) *world {
	t.Helper()
	w := begun(t, c)
	for _, n := range servers {
		w.follow(n, servers[0])
	}
	w.settle()
	return w
}

// TestEstablishedByAQuorum: it is established, serves, commits and brings all of them up, just if they are a quorum by weights and groups.
func TestEstablishedByAQuorum(t *testing.T) {
	for _, x := range systems() {
		for _, servers := range x.quorums {
			w := gathers(t, x.config(), servers)
			for i, n := range servers {
				o, e := w.write(n, create([]string{"/a", "/b", "/c", "/d", "/e", "/f"}[i]))
				if e != api.OK {
					t.Fatalf("P24.5: %v of %v: a write at %d: %s, %d", servers, x, n, outputText(o), e)
				}
				w.settle()
			}
			for _, n := range servers {
				if v := w.view(n); !v.Serves || v.Delivered != z(1, uint32(len(servers))) || v.Digest != w.view(servers[0]).Digest {
					t.Errorf("P24.5: %v of %v: server %d: %+v", servers, x, n, v)
				}
			}
		}
		for _, servers := range x.none {
			w := gathers(t, x.config(), servers)
			for _, n := range servers {
				if v := w.view(n); v.Serves || v.Durable.Accepted != 0 || v.State == api.Looking {
					t.Errorf("P24.5: %v of %v: server %d: %+v", servers, x, n, v)
				}
				w.refuses(n, api.Input{Kind: api.InWrite, Req: create("/a")}, api.ErrLooking)
			}
		}
	}
}

// lacking lets a quorum but one of its servers' packets of one kind be there; then these come too.
func lacking(t *testing.T, x system, servers []int8, who int8, kind int8) (ahead, behind api.View) {
	t.Helper()
	w := begun(t, x.config())
	for _, n := range servers {
		w.follow(n, servers[0])
	}
	var kept []message
	for len(w.net) > 0 {
		if p, _ := packet.Read(w.net[0].bytes); p.Kind == kind && w.net[0].from == who {
			kept, w.net = append(kept, w.net[0]), w.net[1:]
			continue
		}
		w.take(0)
	}
	ahead = w.view(servers[0])
	w.net = kept
	w.settle()
	return ahead, w.view(servers[0])
}

// TestEachOfAQuorum: of a least quorum nobody may be away, at its Info, at its promise, at its acknowledgement.
func TestEachOfAQuorum(t *testing.T) {
	for _, at := range []struct {
		system  int
		servers []int8
	}{{1, []int8{0, 1}}, {2, []int8{2, 0}}, {3, []int8{0, 1, 2}}, {4, []int8{1, 0}}, {5, []int8{1, 0}}, {7, []int8{0, 1, 2, 3}}, {8, []int8{3, 2, 1, 0}}} {
		x := systems()[at.system]
		for _, who := range at.servers[1:] {
			for i, kind := range []int8{api.PInfo, api.PAckEpoch, api.PAckLeader} {
				ahead, behind := lacking(t, x, at.servers, who, kind)
				if ahead.Serves || ahead.Durable.Accepted != min(uint32(i), 1) || ahead.Durable.Current != max(0, uint32(i))/2 {
					t.Errorf("P24.5: %v of %v, without the packet %d of %d: %+v", at.servers, x, kind, who, ahead)
				}
				if !behind.Serves || behind.Durable.Current != 1 {
					t.Errorf("P24.5: %v of %v, behind the packet %d of %d: %+v", at.servers, x, kind, who, behind)
				}
			}
		}
	}
}

// TestCommitsByAQuorum: what is proposed is committed just when those that have acknowledged it, the leader too, are a quorum.
func TestCommitsByAQuorum(t *testing.T) {
	for _, c := range []struct {
		weights, groups []int
		order           []int8 // in which the acknowledgements come
		with            int    // so many of them commit it
	}{
		{[]int{1, 1, 1}, []int{0, 0, 0}, []int8{2, 1}, 1},
		{[]int{1, 1, 1, 1, 1}, []int{0, 0, 0, 0, 0}, []int8{3, 1, 2}, 2},
		{[]int{3, 1, 1}, []int{0, 0, 0}, []int8{1, 2}, 0},
		{[]int{1, 1, 3}, []int{0, 0, 0}, []int8{1, 2}, 2},
		{[]int{1, 1, 0, 0}, []int{0, 0, 0, 0}, []int8{2, 3, 1}, 3},
		{[]int{1, 1, 1, 1, 1, 1}, []int{0, 0, 2, 2, 5, 5}, []int8{2, 4, 1, 5, 3}, 4},
		{[]int{1, 1, 1, 1, 1, 1}, []int{0, 0, 2, 2, 5, 5}, []int8{5, 4, 3, 2}, 4},
	} {
		x := system{weights: c.weights, groups: c.groups}
		var servers []int8
		for n := range c.weights {
			servers = append(servers, int8(n))
		}
		w := gathers(t, x.config(), servers)
		if c.with == 0 {
			w.does(0, api.Input{Kind: api.InWrite, Req: create("/a")}, api.FactProposed, api.FactDelivered, api.FactAnswered)
			continue
		}
		w.does(0, api.Input{Kind: api.InWrite, Req: create("/a")}, api.FactProposed)
		for len(w.net) > 0 && w.net[0].from == 0 {
			w.take(0)
		}
		acks := slices.Clone(w.net)
		for i, n := range c.order {
			ack := acks[slices.IndexFunc(acks, func(m message) bool { return m.from == n })]
			o, _ := w.hears(0, n, ack.bytes)
			var want []int8
			if i+1 == c.with {
				want = []int8{api.FactDelivered, api.FactAnswered}
			}
			if !slices.Equal(kindsOf(o.Facts), want) {
				t.Errorf("P24.5: %v, behind the acknowledgements of %v: %s", c, c.order[:i+1], outputText(o))
			}
		}
	}
}

// TestNeverLeads: who weighs nothing follows and gets up, but is not told to lead; as a refused one it stays what it was.
func TestNeverLeads(t *testing.T) {
	c := config(1, 1, 0)
	w := led(t, c, 1, 2)
	had := w.view(2)
	if !had.Serves {
		t.Fatalf("%+v", had)
	}
	w.refuses(2, api.Input{Kind: api.InFollow, Other: 2}, api.ErrServer)
	w.write(2, create("/a"))
	w.settle()
	if v := w.view(2); !v.Serves || v.Delivered != z(1, 1) || v.Leader != 0 {
		t.Errorf("P24.3: %+v", v)
	}
	w.gives(2)
	w.refuses(2, api.Input{Kind: api.InFollow, Other: 2}, api.ErrServer)
	o, _ := w.follow(2, 0)
	if x := packets(t, o); len(x) != 1 || x[0].p.Conn.Try != 2 { // the refused ones were no tries
		t.Errorf("P24.3: %s", outputText(o))
	}
}
