package peer_test

import (
	"fmt"
	"slices"
	"testing"

	"lagoon/api"
)

// place is where a leader (server 0) and a follower (server 1) stand to each other: their worlds are made anew for each packet.
type place struct {
	name  string
	make  func(t *testing.T) *world
	to    int8
	kinds []int8 // that the receiver waits for, but for an Info
	next  int64  // the place of the next packet
}

// until makes a world in which the first packet of this kind is under way, and next.
func until(kind int8) func(t *testing.T) *world {
	return func(t *testing.T) *world {
		t.Helper()
		w := begun(t, config(1, 1, 1))
		w.follow(0, 0)
		w.follow(1, 0)
		w.until(kind)
		w.net = nil
		return w
	}
}

// cached is until behind some history: 1 has written 1.1 and a proposal more waits.
func upAndUnder(t *testing.T) *world {
	t.Helper()
	w := led(t, config(1, 1, 1), 1)
	w.write(0, create("/a"))
	w.settle()
	w.write(0, create("/b"))
	w.net = nil
	return w
}

func places() []place {
	return []place{
		{"a leader that does not know the server", func(t *testing.T) *world { w := begun(t, config(1, 1, 1)); w.follow(0, 0); return w }, 0, nil, 0},
		{"a leader without an epoch knows the server", func(t *testing.T) *world {
			w := begun(t, config(1, 1, 1, 1, 1))
			w.follow(0, 0)
			w.follow(1, 0)
			w.settle()
			return w
		}, 0, nil, 1},
		{"it is known", until(api.PEpoch), 0, []int8{api.PAckEpoch}, 1},
		{"it has answered", func(t *testing.T) *world {
			w := begun(t, config(1, 1, 1, 1, 1))
			w.follow(0, 0)
			for n := range int8(3) {
				w.follow(n+1, 0)
			}
			w.until(api.PEpoch)
			w.net = nil
			w.tells(packetTo{from: 1, to: 0, p: right1(api.PAckEpoch, 1)})
			return w
		}, 0, nil, 2},
		{"it is brought up", until(api.PNewLeader), 0, []int8{api.PAckLeader}, 2},
		{"it has acknowledged", func(t *testing.T) *world {
			w := begun(t, config(1, 1, 1, 1, 1))
			w.follow(0, 0)
			for n := range int8(4) {
				w.follow(n+1, 0)
			}
			w.until(api.PAckLeader)
			w.net = nil
			w.tells(packetTo{from: 1, to: 0, p: right1(api.PAckLeader, 2)})
			return w
		}, 0, []int8{api.PAck}, 3},
		{"it is up", upAndUnder, 0, []int8{api.PAck, api.PForward, api.PPing}, 4},
		{"a follower waits for the epoch", until(api.PInfo), 1, []int8{api.PEpoch}, 0},
		{"a follower gathers", until(api.PAckEpoch), 1, []int8{api.PTrunc, api.PDiff, api.PChunk, api.PNewLeader}, 1},
		{"a follower has acknowledged", until(api.PAckLeader), 1, []int8{api.PPropose, api.PUpToDate}, 2},
		{"a follower is up", upAndUnder, 1, []int8{api.PPropose, api.PCommit}, 5},
		{"a server looks", func(t *testing.T) *world { return begun(t, config(1, 1, 1)) }, 0, nil, 0},
	}
}

// right1 is a packet of a kind between server 1, in its first try, and the leader 0, in its first leadership.
func right1(kind int8, at int64) api.Packet {
	one := api.Conn{Boot: 1, Try: 1}
	p := api.Packet{Kind: kind, Conn: one, Lead: one, Place: at}
	switch kind {
	case api.PInfo:
		p.Lead, p.Place = api.Conn{}, 0
		p.Conn.Try = 1
	case api.PEpoch, api.PAckLeader, api.PNewLeader:
		p.Epoch = 1
	case api.PAckEpoch:
		p.Epoch, p.Counted = 1, true
	case api.PDiff, api.PPropose:
		p.Txn = api.Txn{Zxid: z(1, 1), Req: create("/p")}
	case api.PChunk:
		p.Bytes = []byte{1}
	case api.PAck, api.PCommit:
		p.Zxid = z(1, 1)
	case api.PForward:
		p.Txn = api.Txn{From: api.Origin{Server: 1, Boot: 1, Number: 1}, Req: create("/f")}
	case api.PPing:
		p.Session = 1
	}
	return p
}

// seen is all that a packet can change of a world: what it may do next is held against the model by each step behind it.
func seen(w *world, n int8) string {
	v := w.view(n)
	return fmt.Sprintf("%+v %v %d", v, w.all[n].d.Writes(), len(w.net))
}

// goesOn tells the receiver the rest of a bringing up, and more: what a dropped packet has changed in secret is seen here. A leader is established by others then, and takes all that server 1 may say once more.
func (w *world) goesOn(to int8) {
	w.tellsAll(to)
	if to != 0 {
		return
	}
	for n := int8(2); int(n) < len(w.all); n++ {
		for at, kind := range []int8{api.PInfo, api.PAckEpoch, api.PAckLeader} {
			p := right1(kind, int64(at))
			p.Conn.Try = 9
			w.tells(packetTo{from: n, to: 0, p: p})
		}
	}
	w.write(0, create("/x"))
	w.tellsAll(0)
}

// tellsAll tells packets of each kind, at no place but the one that is the next by the model.
func (w *world) tellsAll(to int8) {
	for _, kind := range []int8{api.PAckEpoch, api.PAckLeader, api.PForward, api.PAck, api.PPing, api.PEpoch, api.PNewLeader, api.PUpToDate, api.PPropose, api.PCommit} {
		at := int64(0)
		if l := w.all[to].m.l; l != nil && l.of[1] != nil {
			at = l.of[1].from
		}
		if f := w.all[to].m.f; f != nil {
			at = f.from
		}
		w.tells(packetTo{from: 1 - to, to: to, p: right1(kind, at)})
	}
}

// TestDropped: each kind of packets at each place where its receiver may stand: what it does not wait for changes nothing.
func TestDropped(t *testing.T) {
	for _, x := range places() {
		for kind := api.PInfo; kind <= api.PPing; kind++ {
			if slices.Contains(x.kinds, kind) || kind == api.PInfo && x.to == 0 && x.next == 0 {
				continue
			}
			for at := range x.next + 3 {
				w := x.make(t)
				before := seen(w, x.to)
				o, e := w.tells(packetTo{from: 1 - x.to, to: x.to, p: right1(kind, at)})
				if e != api.OK || len(o.Facts)+len(o.Sends) > 0 || seen(w, x.to) != before {
					t.Fatalf("P24.4: %s: a packet of kind %d, place %d: %s", x.name, kind, at, outputText(o))
				}
				w.goesOn(x.to)
			}
		}
	}
}

// wrongs are packets that are not of that connection, leadership, place.
func wrongs(p api.Packet) []api.Packet {
	var out []api.Packet
	add := func(turn func(p *api.Packet)) {
		q := p
		turn(&q)
		out = append(out, q)
	}
	add(func(p *api.Packet) { p.Conn.Try++ })
	add(func(p *api.Packet) { p.Conn.Boot++ })
	add(func(p *api.Packet) { p.Lead.Try++ })
	add(func(p *api.Packet) { p.Lead.Boot++ })
	add(func(p *api.Packet) { p.Place++ })
	add(func(p *api.Packet) { p.Place += 1 << 32 })
	if p.Place > 0 {
		add(func(p *api.Packet) { p.Place-- })
		add(func(p *api.Packet) { p.Place = 0 })
	}
	return out
}

// TestWrongNumbers: what is waited for, but with another connection, leadership, place, from another server, or with spoilt bytes, is dropped; then the right one is taken.
func TestWrongNumbers(t *testing.T) {
	for _, x := range places() {
		for _, kind := range x.kinds {
			p := right1(kind, x.next)
			w := x.make(t)
			before := seen(w, x.to)
			drops := func(from int8, b []byte) {
				t.Helper()
				o, e := w.hears(x.to, from, b)
				if e != api.OK || len(o.Facts)+len(o.Sends) > 0 || seen(w, x.to) != before {
					t.Fatalf("P24.4: %s: kind %d: not dropped: %s", x.name, kind, outputText(o))
				}
			}
			for _, q := range wrongs(p) {
				if kind != api.PEpoch || q.Lead == p.Lead { // what leadership it is is told by the Epoch
					drops(1-x.to, bytesOf(t, q))
				}
			}
			b := bytesOf(t, p)
			drops(x.to, b)
			drops(2, b)
			for i := range b {
				spoilt := slices.Clone(b)
				spoilt[i] ^= 0x41
				drops(1-x.to, spoilt)
			}
			drops(1-x.to, nil)
			drops(1-x.to, b[:len(b)-1])
			drops(1-x.to, append(slices.Clone(b), 0))
			w.tells(packetTo{from: 1 - x.to, to: x.to, p: p})
			twice, _ := w.tells(packetTo{from: 1 - x.to, to: x.to, p: p})
			if len(twice.Facts)+len(twice.Sends) > 0 {
				t.Fatalf("P24.4: %s: a packet of kind %d twice: %s", x.name, kind, outputText(twice))
			}
			w.goesOn(x.to)
		}
	}
}

// TestOtherEpoch: a leader passes over an AckEpoch and an AckLeader of another epoch, and an Ack above its last, but counts its place.
func TestOtherEpoch(t *testing.T) {
	for _, x := range places() {
		for _, kind := range x.kinds {
			p := right1(kind, x.next)
			switch {
			case x.to != 0:
				continue
			case kind == api.PAckEpoch || kind == api.PAckLeader:
				p.Epoch = 2
			case kind == api.PAck:
				p.Zxid = z(1, 3)
			default:
				continue
			}
			w := x.make(t)
			before := seen(w, 0)
			o, _ := w.tells(packetTo{from: 1, to: 0, p: p})
			if len(o.Facts)+len(o.Sends) > 0 || seen(w, 0) != before {
				t.Fatalf("P24.4: %s: kind %d, another epoch: %s", x.name, kind, outputText(o))
			}
			o, _ = w.tells(packetTo{from: 1, to: 0, p: right1(kind, x.next)})
			if len(o.Facts)+len(o.Sends) > 0 {
				t.Fatalf("P24.4: %s: kind %d: the place was not counted: %s", x.name, kind, outputText(o))
			}
			w.tells(packetTo{from: 1, to: 0, p: right1(kind, x.next+1)})
			w.goesOn(0)
		}
	}
}

// TestEpochs: what a follower does with the epoch that its leader tells: above, at and below the one that it accepted.
func TestEpochs(t *testing.T) {
	for _, epoch := range []uint32{1, 4, 5, 6, 99, api.LastEpoch} {
		w := led(t, config(1, 1), 1)
		w.write(0, create("/a"))
		w.settle()
		w.follow(1, 0)
		p := right1(api.PEpoch, 0)
		p.Conn.Try, p.Epoch = 2, 5
		w.tells(packetTo{from: 0, to: 1, p: p})
		w.follow(1, 0)
		n := w.all[1].d.Writes()
		p = right1(api.PEpoch, 0)
		p.Conn.Try, p.Epoch, p.Lead = 3, epoch, api.Conn{Boot: 7, Try: 8}
		o, e := w.tells(packetTo{from: 0, to: 1, p: p})
		if epoch < 5 {
			gaveUp(t, "an epoch below", w, 1, o, e)
			continue
		}
		want := api.Packet{Kind: api.PAckEpoch, Conn: api.Conn{Boot: 1, Try: 3}, Lead: api.Conn{Boot: 7, Try: 8}, Place: 1, Epoch: epoch, Current: 1, Zxid: z(1, 1), Counted: epoch > 5}
		if len(o.Facts) > 0 || len(o.Sends) != 1 || string(o.Sends[0].Bytes) != string(bytesOf(t, want)) || w.view(1).Durable.Accepted != epoch || (w.all[1].d.Writes() > n) != (epoch > 5) {
			t.Errorf("P24.6: the epoch %d: %s", epoch, outputText(o))
		}
	}
}

// TestFollowerGivesUp: at each packet that it waits for, but that does not fit its history.
func TestFollowerGivesUp(t *testing.T) {
	bad := map[int8]func(p *api.Packet){
		api.PTrunc:     func(p *api.Packet) { p.Zxid = z(1, 1) },
		api.PDiff:      func(p *api.Packet) { p.Prev, p.Txn.Zxid = z(1, 1), z(1, 2) },
		api.PChunk:     func(p *api.Packet) { p.Final = true },
		api.PNewLeader: func(p *api.Packet) { p.Epoch = 2 },
		api.PPropose:   func(p *api.Packet) { p.Prev, p.Txn.Zxid = z(1, 8), z(1, 9) },
		api.PUpToDate:  func(p *api.Packet) { p.Zxid = z(1, 9) },
		api.PCommit:    func(p *api.Packet) { p.Zxid = z(1, 3) },
	}
	tried := 0
	for _, x := range places() {
		for _, kind := range x.kinds {
			turn := bad[kind]
			if x.to != 1 || turn == nil {
				continue
			}
			tried++
			w := x.make(t)
			had := w.view(1)
			p := right1(kind, x.next)
			turn(&p)
			o, e := w.tells(packetTo{from: 0, to: 1, p: p})
			gaveUp(t, x.name, w, 1, o, e)
			if v := w.view(1); v.Durable != had.Durable || v.Committed != had.Committed || v.Delivered != had.Delivered {
				t.Errorf("P24.6: %s: %+v, not %+v", x.name, v, had)
			}
		}
	}
	if tried != 8 {
		t.Errorf("%d packets were tried", tried)
	}
}

// TestFollowerFits: a Propose of its last, a Commit and an UpToDate up to its last and below are taken.
func TestFollowerFits(t *testing.T) {
	w := upAndUnder(t)
	if v := w.view(1); v.Durable.Last != z(1, 1) {
		t.Fatalf("%+v", v)
	}
	p := right1(api.PPropose, 5)
	p.Prev, p.Txn.Zxid = z(1, 1), z(1, 2)
	o, _ := w.tells(packetTo{from: 0, to: 1, p: p})
	if x := packets(t, o); len(x) != 1 || x[0].p.Kind != api.PAck || x[0].p.Zxid != z(1, 2) || w.view(1).Delivered != z(1, 1) {
		t.Errorf("P24.6: Propose: %s", outputText(o))
	}
	p = right1(api.PCommit, 6)
	w.does(1, api.Input{Kind: api.InPacket, Other: 0, Bytes: bytesOf(t, p)}) // what it has delivered
	if v := w.view(1); v.Committed != z(1, 1) {
		t.Errorf("P24.6: %+v", v)
	}
	p.Place, p.Zxid = 7, z(1, 2)
	w.does(1, api.Input{Kind: api.InPacket, Other: 0, Bytes: bytesOf(t, p)}, api.FactDelivered)
	p.Place, p.Zxid = 8, z(1, 1)
	w.does(1, api.Input{Kind: api.InPacket, Other: 0, Bytes: bytesOf(t, p)})
	if v := w.view(1); v.Committed != z(1, 2) || v.Delivered != z(1, 2) {
		t.Errorf("P24.6: a Commit below: %+v", v)
	}
}
