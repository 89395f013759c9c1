package peer_test

import (
	"slices"
	"testing"

	"lagoon/api"
)

func open(timeout int32) api.Request { return api.Request{Kind: api.Open, Timeout: timeout} }

func id(epoch, n uint32) int64 { return int64(epoch)<<32 + int64(n) }

func ephemeral(p string, session int64) api.Request {
	return api.Request{Kind: api.Create, Path: p, Ephemeral: true, Session: session}
}

// TestExpires: at the multiple of 4 behind its time-out; FactExpired, then the proposal of its Close from nobody's number, then what comes of that.
func TestExpires(t *testing.T) {
	w := led(t, config(1))
	w.write(0, open(5))
	w.write(0, ephemeral("/e", id(1, 1)))
	w.ask(0, api.Request{Kind: api.Exists, Path: "/e"}, api.Watch{Client: 7, Kind: api.WatchData, Path: "/e"})
	for range 7 {
		w.does(0, api.Input{Kind: api.InTick})
	}
	o := w.does(0, api.Input{Kind: api.InTick}, api.FactExpired, api.FactProposed, api.FactDelivered, api.FactFired)
	want := api.Txn{Zxid: z(1, 3), From: api.Origin{Boot: 1}, Req: api.Request{Kind: api.Close, Session: id(1, 1)}}
	if o.Facts[0].Session != id(1, 1) || !sameFact(o.Facts[1], api.Fact{Kind: api.FactProposed, Txn: want}) || o.Facts[3].Fired.Change != (api.Change{Kind: api.Gone, Path: "/e"}) {
		t.Errorf("P24.3: %s", outputText(o))
	}
	for range 20 {
		w.does(0, api.Input{Kind: api.InTick})
	}
}

// TestExpiresTogether: several in one Tick, rising.
func TestExpiresTogether(t *testing.T) {
	for _, followers := range [][]int8{nil, {1}} {
		c := config(1)
		if followers != nil {
			c = config(1, 1)
		}
		w := led(t, c, followers...)
		for _, timeout := range []int32{4, 1, 9, 3} {
			w.write(0, open(timeout))
			w.settle()
		}
		var o api.Output
		for range 4 {
			o = w.tick(0)
		}
		var told []int64
		for _, f := range o.Facts {
			if f.Kind == api.FactExpired {
				told = append(told, f.Session)
			}
		}
		if !slices.Equal(told, []int64{id(1, 1), id(1, 2), id(1, 4)}) {
			t.Errorf("P24.3: expired: %v", told)
		}
		w.settle()
		for n := range w.all {
			if l := w.all[n].s.Tree().Sessions(); len(l) != 1 || l[0].Id != id(1, 3) {
				t.Errorf("P24.3: the server %d has the sessions %v", n, l)
			}
		}
	}
}

// TestExpiresAtTheLastCounter: the one that would be behind the last counter is told, and the leader gives up; no further one is told.
func TestExpiresAtTheLastCounter(t *testing.T) {
	for spare := range 4 {
		c := config(1)
		c.LastCounter = uint32(3 + spare)
		w := led(t, c)
		for range 3 {
			w.write(0, open(4))
		}
		for range 3 {
			w.tick(0)
		}
		var want []int8
		for range min(spare, 3) {
			want = append(want, api.FactExpired, api.FactProposed, api.FactDelivered)
		}
		if spare < 3 {
			want = append(want, api.FactExpired, api.FactGaveUp)
		}
		w.does(0, api.Input{Kind: api.InTick}, want...)
		if v := w.view(0); v.Serves != (spare == 3) {
			t.Errorf("P24.3: %+v", v)
		}
	}
}

// TestClockBeginsAnew: with the sessions of its tree, when the leader is established; those of its initial history are added as they are delivered.
func TestClockBeginsAnew(t *testing.T) {
	w := led(t, config(1, 1, 1), 1, 2)
	w.write(0, open(4))
	w.write(0, open(8))
	w.settle()
	for range 3 {
		w.tick(0)
	}
	w.write(0, open(4)) // not delivered by 1 before it leads
	for _, x := range slices.Clone(w.net) {
		if x.to == 1 {
			w.hears(1, 0, x.bytes)
		}
	}
	w.net = nil
	w.gives(0)
	w.follow(1, 1)
	w.follow(2, 1)
	w.settle()
	if v := w.view(1); v.Delivered != z(1, 3) || !v.Serves {
		t.Fatalf("%+v", v)
	}
	var expired [][]int64
	for range 8 {
		var l []int64
		for _, f := range w.tick(1).Facts {
			if f.Kind == api.FactExpired {
				l = append(l, f.Session)
			}
		}
		w.settle()
		expired = append(expired, l)
	}
	if !slices.Equal(expired[3], []int64{id(1, 1), id(1, 3)}) || !slices.Equal(expired[7], []int64{id(1, 2)}) {
		t.Errorf("P24.5: expired by ticks: %v", expired)
	}
	w.does(0, api.Input{Kind: api.InTick})
	w.does(2, api.Input{Kind: api.InTick})
}

// TestTouchedByWrites: what is proposed for a session begins its time anew, at whichever server it was written; also what fails.
func TestTouchedByWrites(t *testing.T) {
	requests := []api.Request{
		ephemeral("/e", id(1, 1)), {Kind: api.Create, Path: "/n/n", Session: id(1, 1)}, {Kind: api.Check, Path: "/", Version: -1, Session: id(1, 1)},
		{Kind: api.Multi, Session: id(1, 1), Ops: []api.Request{create("/m")}},
	}
	for n := range int8(2) {
		for _, r := range requests {
			w := led(t, config(1, 1), 1)
			w.write(0, open(4))
			w.settle()
			for range 3 {
				w.tick(0)
			}
			w.write(n, r)
			w.settle()
			for range 4 {
				w.does(0, api.Input{Kind: api.InTick})
			}
			w.does(0, api.Input{Kind: api.InTick}, api.FactExpired, api.FactProposed)
		}
	}
	w := led(t, config(1, 1), 1) // one of nobody touches none
	w.write(0, open(4))
	w.settle()
	for range 3 {
		w.tick(0)
	}
	w.write(0, create("/x"))
	w.settle()
	w.does(0, api.Input{Kind: api.InTick}, api.FactExpired, api.FactProposed)
}

// TestClosed: a session that was closed is told no more; an Open that fails adds none.
func TestClosed(t *testing.T) {
	w := led(t, config(1))
	w.write(0, open(4))
	w.write(0, api.Request{Kind: api.Close, Session: id(1, 1)})
	w.write(0, api.Request{Kind: api.Close, Session: id(1, 1)}) // fails
	for range 12 {
		w.does(0, api.Input{Kind: api.InTick})
	}
	c := config(1)
	c.LastCounter = 999
	w = led(t, c)
	for range 64 {
		w.write(0, open(5))
	}
	o, _ := w.write(0, open(1))
	if o.Facts[1].Result.Err != api.ErrLarge {
		t.Fatalf("%+v", o)
	}
	for range 7 {
		w.does(0, api.Input{Kind: api.InTick})
	}
	if o := w.tick(0); len(o.Facts) < 64*3 {
		t.Errorf("P24.3: %d facts of 64 sessions", len(o.Facts))
	}
}
