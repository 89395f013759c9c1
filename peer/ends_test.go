package peer_test

import (
	"math"
	"slices"
	"testing"

	"lagoon/api"
)

// TestLastEpoch: an epoch at the configuration's last is led, one above it is given up; nothing is written then.
func TestLastEpoch(t *testing.T) {
	for _, last := range []uint32{1, 2, 7} {
		c := config(1)
		c.LastEpoch = last
		w := begun(t, c)
		for e := range last {
			if o, _ := w.follow(0, 0); o.Facts[len(o.Facts)-1].Kind != api.FactEstablished || w.view(0).Durable.Current != e+1 {
				t.Fatalf("P24.5: epoch %d of %d: %s", e+1, last, outputText(o))
			}
		}
		w.gives(0)
		n := w.all[0].d.Writes()
		o, e := w.follow(0, 0)
		gaveUp(t, "behind the last epoch", w, 0, o, e)
		if w.all[0].d.Writes() != n || w.view(0).Durable.Accepted != last {
			t.Errorf("P24.5: behind the last epoch: %+v", w.view(0).Durable)
		}
	}
}

// TestLastEpochOfAll: the greatest accepted epoch counts, whoever of the quorum has it; followers look at no last epoch.
func TestLastEpochOfAll(t *testing.T) {
	for _, a := range []uint32{2, 3, 4, math.MaxInt32 - 1, math.MaxInt32} {
		c := config(1, 1, 1)
		c.LastEpoch = 4
		w := begun(t, c)
		w.follow(0, 0)
		info := api.Packet{Kind: api.PInfo, Conn: api.Conn{Boot: 1, Try: 1}, Epoch: a}
		o, e := w.tells(packetTo{from: 1, to: 0, p: info})
		if a >= 4 {
			gaveUp(t, "an Info's epoch is the last", w, 0, o, e)
			continue
		}
		if x := packets(t, o); len(x) != 1 || x[0].p.Kind != api.PEpoch || x[0].p.Epoch != a+1 {
			t.Errorf("P24.5: an Info of %d: %s", a, outputText(o))
		}
		w.net = nil
		w.follow(2, 0)
		w.net = nil
		high := api.Packet{Kind: api.PEpoch, Conn: api.Conn{Boot: 1, Try: 1}, Lead: api.Conn{Boot: 1, Try: 1}, Epoch: 77}
		w.tells(packetTo{from: 0, to: 2, p: high})
		if v := w.view(2); v.Durable.Accepted != 77 {
			t.Errorf("P24.6: %+v", v)
		}
	}
}

// TestGreatestEpoch: e is 1 and the greatest of the a of all that it knows, of each its latest Info, and of its own.
func TestGreatestEpoch(t *testing.T) {
	info := func(n int8, try, a uint32) packetTo {
		return packetTo{from: n, to: 0, p: api.Packet{Kind: api.PInfo, Conn: api.Conn{Boot: 1, Try: try}, Epoch: a}}
	}
	for _, c := range []struct {
		infos []packetTo
		want  uint32
	}{
		{[]packetTo{info(1, 1, 0), info(2, 1, 0)}, 1},
		{[]packetTo{info(1, 1, 5), info(2, 1, 0)}, 6},
		{[]packetTo{info(1, 1, 3), info(2, 1, 8)}, 9},
		{[]packetTo{info(1, 1, 9), info(1, 2, 4), info(2, 1, 2)}, 5},
		{[]packetTo{info(1, 2, 9), info(1, 1, 4), info(2, 1, 2)}, 10},
	} {
		w := begun(t, config(1, 1, 1, 1, 1))
		w.follow(0, 0)
		var o api.Output
		for _, x := range c.infos {
			o, _ = w.tells(x)
		}
		if x := packets(t, o); len(x) != 2 || x[0].p.Epoch != c.want || w.view(0).Durable.Accepted != c.want {
			t.Errorf("P24.5: %+v: %s", c.infos, outputText(o))
		}
	}
	w := led(t, config(1)) // its own
	for range 3 {
		w.follow(0, 0)
	}
	if e := w.view(0).Durable.Accepted; e != 4 {
		t.Errorf("P24.5: its own epoch is %d", e)
	}
}

// TestLastCounter: the counters of an epoch end at the configuration's last; each epoch begins at 1 anew.
func TestLastCounter(t *testing.T) {
	for _, last := range []uint32{1, 2, 5} {
		c := config(1, 1)
		c.LastCounter = last
		w := led(t, c, 1)
		for epoch := uint32(1); epoch < 3; epoch++ {
			for n := range last {
				o := w.does(0, api.Input{Kind: api.InWrite, Req: set("/", "x")}, api.FactProposed)
				if o.Facts[0].Txn.Zxid != z(epoch, n+1) {
					t.Errorf("P24.5: the proposal %d is %v", n+1, o.Facts[0].Txn.Zxid)
				}
				w.settle()
			}
			o, e := w.write(0, set("/", "y"))
			if e != api.OK || !slices.Equal(kindsOf(o.Facts), []int8{api.FactGaveUp, api.FactAnswered}) || len(o.Sends) > 0 || w.view(0).Durable.Last != z(epoch, last) {
				t.Errorf("P24.5: behind the last counter: %s, %d", outputText(o), e)
			}
			w.follow(0, 0)
			w.follow(1, 0)
			w.settle()
		}
	}
}

// TestLastCounterOfAForward: who sent the write is told by its own giving up, not by its leader's.
func TestLastCounterOfAForward(t *testing.T) {
	c := config(1, 1)
	c.LastCounter = 1
	w := led(t, c, 1)
	w.write(1, create("/a"))
	w.settle()
	w.write(1, create("/b"))
	o, e := w.take(0)
	gaveUp(t, "a Forward behind the last counter", w, 0, o, e)
	if v := w.view(1); !v.Serves {
		t.Errorf("%+v", v)
	}
	w.does(1, api.Input{Kind: api.InGiveUp}, api.FactGaveUp, api.FactAnswered)
}
