package peer_test

import (
	"math"
	"slices"
	"strconv"
	"testing"

	"lagoon/api"
	"lagoon/disk"
	"lagoon/log"
	"lagoon/manifest"
)

// gaveUp looks that a step ended with giving up, and sent nothing behind it.
func gaveUp(t *testing.T, what string, w *world, n int8, o api.Output, e api.Errno, ahead ...int8) {
	t.Helper()
	want := append(ahead, api.FactGaveUp)
	if e != api.OK || !slices.Equal(kindsOf(o.Facts), want) || len(o.Sends) > 0 {
		t.Fatalf("P24.1: %s: %s, %d, not the facts %v", what, outputText(o), e, want)
	}
	if v := w.view(n); v.State != api.Looking || v.Serves || v.Leader != 0 {
		t.Fatalf("P24.1: %s: behind it: %+v", what, v)
	}
}

// TestFullAtEachWrite: a disk that has no room for what a step writes makes its server give up, whichever write of it that is; nothing is sent, and its history is as it was.
func TestFullAtEachWrite(t *testing.T) {
	cases := []struct {
		name  string
		n     int8
		begin func(w *world)
		step  func(w *world) (api.Output, api.Errno)
		ahead []int8
		most  int // bytes that it needs
	}{
		{"a leader accepts", 0, func(w *world) { w.follow(0, 0); w.follow(1, 0) }, func(w *world) (api.Output, api.Errno) { return w.take(0) }, nil, 38},
		{"a follower accepts", 1, func(w *world) { w.follow(0, 0); w.follow(1, 0); w.take(0) }, func(w *world) (api.Output, api.Errno) { return w.take(0) }, nil, 38},
		{"a leader leads", 0, func(w *world) { w.follow(0, 0); w.follow(1, 0); w.take(0); w.take(0) }, func(w *world) (api.Output, api.Errno) { return w.take(0) }, nil, 38},
		{"a follower takes", 1, func(w *world) { w.follow(0, 0); w.follow(1, 0); w.until(api.PNewLeader) }, func(w *world) (api.Output, api.Errno) { return w.take(0) }, nil, 38},
		{"a leader proposes", 0, func(w *world) { w.follow(0, 0); w.follow(1, 0); w.settle() }, func(w *world) (api.Output, api.Errno) {
			return w.do(0, api.Input{Kind: api.InPacket, Other: 1, Bytes: bytesOf(t, api.Packet{Kind: api.PForward, Conn: api.Conn{Boot: 1, Try: 1}, Lead: api.Conn{Boot: 1, Try: 1}, Place: 3, Txn: api.Txn{From: api.Origin{Number: 9}, Req: create("/a")}})})
		}, []int8{api.FactProposed}, 59},
		{"a follower writes", 1, func(w *world) { w.follow(0, 0); w.follow(1, 0); w.settle(); w.write(0, create("/a")) }, func(w *world) (api.Output, api.Errno) { return w.take(0) }, nil, 59},
		{"a snapshot", 1, func(w *world) {
			w.follow(0, 0)
			w.follow(1, 0)
			w.settle()
			w.write(0, create("/a"))
			w.settle()
		}, func(w *world) (api.Output, api.Errno) { return w.snap(1) }, nil, 187 + 38},
	}
	for _, c := range cases {
		for left := range c.most + 1 {
			w := begun(t, config(1, 1))
			c.begin(w)
			if !w.all[c.n].s.Up() {
				t.Fatal(c.name)
			}
			had, before := w.view(c.n), len(w.net)
			w.fills(c.n, left)
			o, e := c.step(w)
			if left == c.most {
				if e != api.OK || slices.Contains(kindsOf(o.Facts), api.FactGaveUp) {
					t.Fatalf("P24.1: %s: there is room: %+v, %d", c.name, o, e)
				}
				continue
			}
			gaveUp(t, c.name+", left "+strconv.Itoa(left), w, c.n, o, e, c.ahead...)
			v := w.view(c.n)
			if v.Durable.Last != had.Durable.Last || v.Durable.Current != had.Durable.Current || v.Durable.Accepted < had.Durable.Accepted || v.Delivered != had.Delivered || !sameLog(v.Log, had.Log) || len(w.net) > before {
				t.Fatalf("W5: %s: %+v, not %+v", c.name, v, had)
			}
		}
	}
}

// TestFullByFiles: as many files as may be are no room either.
func TestFullByFiles(t *testing.T) {
	for _, spare := range []int{0, 1, 2} {
		w := begun(t, config(1))
		for _, d := range []*disk.Disk{w.all[0].d, w.all[0].twin} {
			for i := range 64 - 2 - spare {
				d.Append("x"+strconv.Itoa(i), nil)
			}
		}
		o, e := w.follow(0, 0)
		if spare == 0 {
			gaveUp(t, "64 files", w, 0, o, e)
		} else if !slices.Equal(kindsOf(o.Facts), []int8{api.FactInitial, api.FactEstablished}) {
			t.Errorf("P24.1: %d files: %+v", 64-spare, o)
		}
	}
}

// TestRunOnFullDisks: a run on disks of any room is what the chapter says of it.
func TestRunOnFullDisks(t *testing.T) {
	for left := 0; left < 600; left += 7 {
		for n := range int8(3) {
			w := begun(t, config(1, 1, 1))
			w.fills(n, left)
			w.plays(run())
		}
	}
}

// numbered is a disk with a server whose log has this number.
func numbered(t *testing.T, number int64) *disk.Disk {
	t.Helper()
	d, _ := disk.New(100000)
	if _, e := log.Create(d, number, 4, []api.Txn{{Zxid: z(1, 1), Req: create("/a")}}); e != api.OK {
		t.Fatal(e)
	}
	manifest.Put(d, api.Manifest{Boot: 1, Accepted: 1, Current: 1, Log: number})
	return d
}

// TestSpentStore: where there is no next number the store refuses a snapshot, and a NewLeader; so it gives up.
func TestSpentStore(t *testing.T) {
	w := newWorld(t, config(1, 1), 100000)
	for n := range w.all {
		w.all[n].d, w.all[n].twin = numbered(t, math.MaxInt64-int64(n)), numbered(t, math.MaxInt64-int64(n))
		w.starts(int8(n))
	}
	w.follow(0, 0)
	w.follow(1, 0)
	w.settle()
	if v := w.view(1); !v.Serves || v.Delivered != z(1, 1) {
		t.Fatalf("%+v", v)
	}
	o, e := w.snap(0)
	gaveUp(t, "no next number, a snapshot", w, 0, o, e)
	w.follow(0, 0)
	w.follow(1, 0)
	w.until(api.PNewLeader)
	o, e = w.take(0)
	gaveUp(t, "no next number, NewLeader", w, 1, o, e)
}

// TestForeignHistory: what packets that no leader sent have made of a history: its store refuses what does not fit, and it gives up.
func TestForeignHistory(t *testing.T) {
	w := led(t, config(1, 1), 1)
	for _, p := range []string{"/a", "/b"} {
		w.write(0, create(p))
		w.settle()
	}
	w.follow(1, 0)
	w.until(api.PAckEpoch)
	conn, lead := api.Conn{Boot: 1, Try: 2}, api.Conn{Boot: 1, Try: 1}
	w.net = nil
	for i, p := range []api.Packet{
		{Kind: api.PTrunc, Zxid: z(1, 1)},
		{Kind: api.PDiff, Prev: z(1, 1), Txn: api.Txn{Zxid: z(1, 7), Req: create("/n")}},
		{Kind: api.PNewLeader, Epoch: 1, Zxid: z(1, 7)},
		{Kind: api.PUpToDate, Zxid: z(1, 5)},
	} {
		p.Conn, p.Lead, p.Place = conn, lead, int64(i+1)
		w.tells(packetTo{from: 0, to: 1, p: p})
	}
	if v := w.view(1); !v.Serves || v.Delivered != z(1, 2) || v.Committed != z(1, 5) || v.Durable.Last != z(1, 7) {
		t.Fatalf("P24.6: a cut behind what is delivered: %+v", v)
	}
	w.net = nil
	o, e := w.snap(1)
	gaveUp(t, "what is delivered stands no more in its history", w, 1, o, e)
}

// TestForeignEpoch: a follower was given a transaction of an epoch that is none yet. As a leader it proposes nothing behind it, and its packets cannot be made.
func TestForeignEpoch(t *testing.T) {
	w := led(t, config(1, 1, 0), 1, 2)
	far := api.Packet{Kind: api.PPropose, Conn: api.Conn{Boot: 1, Try: 1}, Lead: api.Conn{Boot: 1, Try: 1}, Place: 3, Txn: api.Txn{Zxid: z(9, 1), Req: create("/far")}}
	w.tells(packetTo{from: 0, to: 1, p: far})
	if v := w.view(1); v.Durable.Last != z(9, 1) {
		t.Fatalf("P24.6: %+v", v)
	}
	w.net = nil
	w.follow(1, 1)
	w.follow(0, 1)
	w.follow(2, 1)
	fixed := 0
	w.told = func(n int8, o api.Output, _ api.Errno) {
		for _, f := range o.Facts {
			if f.Kind == api.FactFixed {
				fixed++
			}
		}
		if fixed > 0 && n == 1 && len(o.Sends) > 0 {
			t.Errorf("P24.5: of a log with an epoch above its own a leader sends %s", outputText(o))
		}
	}
	w.settle()
	if fixed != 2 {
		t.Errorf("P24.5: fixed for %d followers, not for 2", fixed)
	}
	w.told = nil
	x := api.Packet{Kind: api.PAckLeader, Conn: api.Conn{Boot: 1, Try: 2}, Lead: api.Conn{Boot: 1, Try: 2}, Place: 2, Epoch: 2}
	o, e := w.tells(packetTo{from: 0, to: 1, p: x})
	if e != api.OK || !slices.Equal(kindsOf(o.Facts), []int8{api.FactEstablished, api.FactDelivered}) {
		t.Fatalf("P24.5: it stands at 3 all the same: %s, %d", outputText(o), e)
	}
	o, e = w.write(1, create("/x"))
	if e != api.OK || !slices.Equal(kindsOf(o.Facts), []int8{api.FactProposed, api.FactGaveUp, api.FactAnswered}) || len(o.Sends) > 0 {
		t.Errorf("P24.1: a proposal below its last: %s, %d", outputText(o), e)
	}
}
