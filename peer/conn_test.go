package peer_test

import (
	"testing"

	"lagoon/api"
	"lagoon/packet"
)

// info is what a server n sends first, on a connection of that number.
func info(n int8, boot, try, a uint32) packetTo {
	return packetTo{from: n, to: 0, p: api.Packet{Kind: api.PInfo, Conn: api.Conn{Boot: boot, Try: try}, Epoch: a}}
}

// TestInfos: a connection is taken, if its number is above all that came of that server, start first.
func TestInfos(t *testing.T) {
	for _, c := range []struct {
		boot, try uint32
		taken     bool
	}{{3, 3, false}, {3, 2, false}, {3, 4, true}, {4, 1, true}, {4, 9, true}, {2, 9, false}, {2, 4, false}, {1, 1, false}, {3, 1 << 31, true}, {1 << 31, 1, true}} {
		w := begun(t, config(1, 1, 1))
		w.follow(0, 0)
		w.tells(info(1, 3, 3, 0))
		w.net = nil
		o, _ := w.tells(info(1, c.boot, c.try, 7))
		if c.taken != (len(o.Sends) == 1) {
			t.Errorf("P24.4: an Info of {%d, %d} behind {3, 3}: %s", c.boot, c.try, outputText(o))
		}
		if c.taken {
			if p := packets(t, o)[0].p; p.Kind != api.PEpoch || p.Epoch != 1 || p.Place != 0 || p.Conn != (api.Conn{Boot: c.boot, Try: c.try}) {
				t.Errorf("P24.4: %+v", p)
			}
		}
		w.net = nil
		if o, _ := w.tells(info(2, 1, 1, 0)); len(o.Sends) != 1 {
			t.Errorf("P24.4: another server's: %s", outputText(o))
		}
	}
}

// TestAnew: wherever a server stands, a new connection of it begins at 1; what comes late of the elder one is dropped, and it is brought up again.
func TestAnew(t *testing.T) {
	for _, kind := range []int8{api.PInfo, api.PEpoch, api.PAckEpoch, api.PNewLeader, api.PAckLeader, api.PUpToDate, 0} {
		w := led(t, config(1, 1, 1), 2)
		w.write(0, create("/a"))
		w.settle()
		w.follow(1, 0)
		if kind != 0 {
			w.until(kind)
		} else {
			w.settle()
			w.write(1, create("/late"))
			w.write(0, create("/b"))
		}
		late := w.net
		w.net = nil
		w.follow(1, 0)
		anew := w.net
		w.net = nil
		x := anew[0]
		w.hears(x.to, x.from, x.bytes)
		anew = w.net
		w.net = nil
		for _, x := range late {
			if x.from == 2 || x.to == 2 {
				w.hears(x.to, x.from, x.bytes)
				continue
			}
			if o, _ := w.hears(x.to, x.from, x.bytes); len(o.Facts)+len(o.Sends) > 0 {
				p, _ := packet.Read(x.bytes)
				t.Fatalf("P24.4: late of the elder connection: %+v: %s", p, outputText(o))
			}
		}
		w.net = append(w.net, anew...)
		w.settle()
		for n := range int8(3) {
			if v := w.view(n); !v.Serves || v.Delivered != w.view(0).Durable.Last || v.Digest != w.view(0).Digest {
				t.Fatalf("P24.4: connected anew at %d: server %d: %+v", kind, n, v)
			}
		}
	}
}

// TestElderPromises: a promise that was given on an elder connection counts, also where the server has not answered again.
func TestElderPromises(t *testing.T) {
	for _, high := range []bool{false, true} {
		w := begun(t, config(1, 1, 1, 1, 1))
		w.follow(0, 0)
		ack := func(n int8, try uint32, counted bool, last api.Zxid) packetTo {
			return packetTo{from: n, to: 0, p: api.Packet{Kind: api.PAckEpoch, Conn: api.Conn{Boot: 1, Try: try}, Lead: api.Conn{Boot: 1, Try: 1}, Place: 1, Epoch: 1, Zxid: last, Counted: counted}}
		}
		w.tells(info(1, 1, 1, 0))
		w.tells(info(2, 1, 1, 0))
		last := api.Zxid{}
		if high {
			last = z(1, 1)
		}
		w.tells(ack(1, 1, true, last))
		w.tells(info(1, 1, 2, 1))
		w.net = nil
		o, e := w.tells(ack(2, 1, true, api.Zxid{}))
		if high {
			gaveUp(t, "an elder promise above its own", w, 0, o, e)
			continue
		}
		if len(o.Facts) != 2 || o.Facts[0].Kind != api.FactInitial || o.Facts[1].Kind != api.FactFixed || o.Facts[1].Other != 2 {
			t.Fatalf("P24.5: an elder promise: %s", outputText(o))
		}
		o, _ = w.tells(ack(1, 2, false, api.Zxid{}))
		if len(o.Facts) != 1 || o.Facts[0].Kind != api.FactFixed || o.Facts[0].Other != 1 {
			t.Errorf("P24.4: an AckEpoch that is not counted, behind the initial history: %s", outputText(o))
		}
	}
}

// TestUncounted: an AckEpoch that does not count is no promise; its server is brought up all the same.
func TestUncounted(t *testing.T) {
	w := begun(t, config(1, 1, 1))
	w.follow(0, 0)
	w.tells(info(1, 1, 1, 0))
	w.tells(info(2, 1, 1, 0))
	w.net = nil
	p := api.Packet{Kind: api.PAckEpoch, Conn: api.Conn{Boot: 1, Try: 1}, Lead: api.Conn{Boot: 1, Try: 1}, Place: 1, Epoch: 1, Current: 9, Zxid: z(9, 9)}
	w.does(0, api.Input{Kind: api.InPacket, Other: 2, Bytes: bytesOf(t, p)})
	p.Current, p.Zxid, p.Counted = 0, api.Zxid{}, true
	o := w.does(0, api.Input{Kind: api.InPacket, Other: 1, Bytes: bytesOf(t, p)}, api.FactInitial, api.FactFixed, api.FactFixed)
	if o.Facts[1].Other != 1 || o.Facts[2].Other != 2 || o.Facts[1].Way != api.ByDiff || o.Facts[2].Way != api.ByTrunc {
		t.Errorf("P24.5: brought up: %s", outputText(o))
	}
}

// TestPromisesAbove: a promise is above its own by the current epoch first, then by the last zxid; the same is not.
func TestPromisesAbove(t *testing.T) {
	base := func() *world {
		w := led(t, config(1, 1, 1), 1)
		w.write(0, create("/a"))
		w.write(0, create("/b"))
		w.settle()
		w.follow(0, 0)
		w.tells(info(2, 1, 9, 0))
		w.net = nil
		return w
	}
	for _, c := range []struct {
		current uint32
		last    api.Zxid
		above   bool
	}{
		{1, z(1, 2), false}, {1, z(1, 3), true}, {1, z(2, 1), true}, {1, z(1, 1), false}, {1, z(0, 0), false},
		{2, z(1, 2), true}, {2, z(0, 0), true}, {0, z(1, 3), false}, {0, z(9, 9), false}, {0, z(1, 2), false},
	} {
		w := base()
		p := api.Packet{Kind: api.PAckEpoch, Conn: api.Conn{Boot: 1, Try: 9}, Lead: api.Conn{Boot: 1, Try: 2}, Place: 1, Epoch: 2, Current: c.current, Zxid: c.last, Counted: true}
		o, e := w.tells(packetTo{from: 2, to: 0, p: p})
		if c.above {
			gaveUp(t, "a promise above its own", w, 0, o, e)
		} else if len(o.Facts) != 2 || o.Facts[0].Kind != api.FactInitial || o.Facts[0].Zxid != z(1, 2) || w.view(0).Durable.Current != 2 {
			t.Errorf("P24.5: a promise {%d, %v}: %s", c.current, c.last, outputText(o))
		}
	}
}

// TestAcknowledgementsStay: who has acknowledged the leadership, and how far, counts, also behind a new connection.
func TestAcknowledgementsStay(t *testing.T) {
	w := begun(t, config(1, 1, 1, 1, 1))
	w.follow(0, 0)
	for n := range int8(3) {
		w.follow(n+1, 0)
	}
	w.until(api.PAckLeader)
	w.take(0) // of 1
	w.follow(1, 0)
	var rest []message
	for _, x := range w.net {
		if x.from != 1 && x.to != 1 {
			rest = append(rest, x)
		}
	}
	info1 := w.net[len(w.net)-1]
	w.net = nil
	w.hears(0, 1, info1.bytes)
	w.net = nil
	established := false
	w.told = func(_ int8, o api.Output, _ api.Errno) {
		for _, f := range o.Facts {
			established = established || f.Kind == api.FactEstablished
		}
	}
	for _, x := range rest {
		if p, _ := packet.Read(x.bytes); p.Kind == api.PAckLeader {
			w.hears(x.to, x.from, x.bytes)
			break
		}
	}
	if !established {
		w.net = rest
		for len(w.net) > 0 && !established {
			w.take(0)
		}
	}
	if !established || !w.view(0).Serves {
		t.Errorf("P24.4: behind a new connection of one that had acknowledged: %+v", w.view(0))
	}
}

// TestPlaces: what goes from one server to another on one connection has the places 0, 1, 2 ..
func TestPlaces(t *testing.T) {
	w := begun(t, config(1, 1, 1))
	type way struct {
		from, to   int8
		conn, lead api.Conn
	}
	next := map[way]int64{}
	w.told = func(n int8, o api.Output, _ api.Errno) {
		for _, x := range packets(t, o) {
			at := way{n, x.to, x.p.Conn, x.p.Lead}
			if x.p.Kind == api.PInfo {
				if x.p.Place != 0 {
					t.Errorf("an Info's place: %+v", x.p)
				}
				continue
			}
			if _, is := next[at]; !is && n > x.to && w.view(n).State == api.Following {
				next[at] = 1 // its Info had place 0
			}
			if x.p.Place != next[at] {
				t.Errorf("P24.1: from %d to %d the place %d, not %d: %+v", n, x.to, x.p.Place, next[at], x.p)
			}
			next[at]++
		}
	}
	for range 3 {
		w.follow(0, 0)
		w.follow(1, 0)
		w.follow(2, 0)
		w.settle()
		for range 4 {
			w.write(1, set("/", "x"))
			w.write(0, set("/", "y"))
			w.do(2, api.Input{Kind: api.InPing, Session: 3})
			w.settle()
		}
		w.follow(2, 0)
		w.settle()
	}
	if len(next) < 10 {
		t.Errorf("only %d ways were gone", len(next))
	}
}
