package peer_test

import (
	"slices"
	"testing"

	"lagoon/api"
)

// waiting is a world whose server n, which leads or follows, has writes that wait, one that does no more, and watches.
func waiting(t *testing.T, n int8) (*world, []api.Watch) {
	t.Helper()
	w := led(t, config(1, 1, 1), 1)
	w.write(n, create("/a"))
	w.settle()
	for _, p := range []string{"/b", "/c", "/d"} {
		w.write(n, create(p))
	}
	l := []api.Watch{{Client: 9, Kind: api.WatchData, Path: "/b"}, {Client: 2, Kind: api.WatchBelow, Path: "/"}, {Client: 9, Kind: api.WatchChild, Path: "/"}, {Client: -1, Kind: api.WatchStay, Path: "/a"}}
	for _, x := range l {
		if _, e := w.ask(n, get("/none"), x); e != api.OK {
			t.Fatal(e)
		}
	}
	return w, l
}

// lost is what is told when such a server gives up.
func lost(n int8, l []api.Watch) []api.Fact {
	out := []api.Fact{{Kind: api.FactGaveUp, Server: n}}
	for i := range int64(3) {
		out = append(out, api.Fact{Kind: api.FactAnswered, Server: n, Number: i + 2, Result: api.Result{Err: api.ErrLooking}})
	}
	for _, x := range l {
		out = append(out, api.Fact{Kind: api.FactLost, Server: n, Fired: api.Fired{Watch: x}})
	}
	return out
}

// TestGivesUp: what is told, in order, by a leader and by a follower; and nothing of what it was is left.
func TestGivesUp(t *testing.T) {
	for n := range int8(2) {
		w, l := waiting(t, n)
		had := w.view(n)
		o, e := w.gives(n)
		if e != api.OK || !slices.EqualFunc(o.Facts, lost(n, l), sameFact) || len(o.Sends) > 0 {
			t.Fatalf("P24.1: server %d gives up: %s, %d", n, outputText(o), e)
		}
		v := w.view(n)
		if v.State != api.Looking || v.Serves || v.Leader != 0 || v.Durable != had.Durable || v.Committed != had.Committed || v.Delivered != had.Delivered || v.Digest != had.Digest {
			t.Fatalf("P24.1: server %d, behind it: %+v, not %+v", n, v, had)
		}
		w.does(n, api.Input{Kind: api.InGiveUp})
		late := w.net
		w.net = nil
		for _, x := range late {
			if x.to == n {
				w.does(n, api.Input{Kind: api.InPacket, Other: x.from, Bytes: x.bytes})
			}
		}
		w.does(n, api.Input{Kind: api.InTick})
		w.follow(0, 0)
		w.follow(1, 0)
		w.told = func(who int8, o api.Output, _ api.Errno) {
			for _, f := range o.Facts {
				if f.Kind == api.FactAnswered || f.Kind == api.FactFired || f.Kind == api.FactLost || f.Kind == api.FactGaveUp {
					t.Errorf("P24.1: behind giving up server %d tells %+v", who, f)
				}
			}
		}
		w.settle()
		w.write(1-n, create("/e"))
		w.told = nil
		w.settle()
		if v := w.view(n); v.Delivered.Epoch != 2 {
			t.Errorf("%+v", v)
		}
	}
}

// TestGivesUpAtAFollow: who is told whom to follow gives up what it was, and goes on in the same step.
func TestGivesUpAtAFollow(t *testing.T) {
	for n := range int8(2) {
		for whom := range int8(3) {
			w, l := waiting(t, n)
			o, e := w.follow(n, whom)
			sends := 1
			if whom == n {
				sends = 0
			}
			if e != api.OK || !slices.EqualFunc(o.Facts, lost(n, l), sameFact) || len(o.Sends) != sends {
				t.Fatalf("P24.3: server %d is to follow %d: %s, %d", n, whom, outputText(o), e)
			}
		}
	}
	w, l := waiting(t, 0)
	w.net = nil
	w.write(0, api.Request{Kind: api.Open, Timeout: 4})
	w.follow(0, 0)
	if o := w.tick(0); len(o.Facts) != 0 {
		t.Errorf("P24.1: the clock of the leadership before: %+v", o)
	}
	_ = l
}

// TestAnsweredOnce: what was answered by giving up is delivered all the same, but not answered again; and what another start wrote is not its own.
func TestAnsweredOnce(t *testing.T) {
	w := begun(t, config(1, 1))
	answers := map[int64]int{}
	w.told = func(n int8, o api.Output, _ api.Errno) {
		for _, f := range o.Facts {
			if f.Kind == api.FactAnswered && n == 0 {
				answers[f.Number]++
			}
		}
	}
	w.follow(0, 0)
	w.follow(1, 0)
	w.settle()
	w.write(0, create("/a"))
	w.gives(0)
	w.follow(0, 0)
	w.follow(1, 0)
	w.settle()
	w.write(0, create("/b"))
	w.settle()
	w.write(0, create("/c"))
	w.off(0)
	w.gives(0)
	w.starts(0)
	w.follow(0, 0)
	w.follow(1, 0)
	w.settle()
	for _, p := range []string{"/d", "/e", "/f"} {
		w.write(0, create(p))
		w.settle()
	}
	if v := w.view(0); v.Delivered != z(3, 3) || answers[1] != 2 || answers[2] != 2 || answers[3] != 1 || len(answers) != 3 {
		t.Errorf("P24.1: answers by number: %v, %+v", answers, v)
	}
}

// TestWaitsForItsOwn: a write of another server with the same number answers nobody.
func TestWaitsForItsOwn(t *testing.T) {
	w := led(t, config(1, 1, 1), 1, 2)
	for n := range int8(3) {
		w.write(n, create("/"+string(rune('a'+n))))
	}
	paths := map[int8]string{}
	w.told = func(n int8, o api.Output, _ api.Errno) {
		for _, f := range o.Facts {
			if f.Kind == api.FactAnswered {
				paths[n] += f.Result.Path
			}
		}
	}
	w.settle()
	if paths[0] != "/a" || paths[1] != "/b" || paths[2] != "/c" {
		t.Errorf("P24.1: answered: %v", paths)
	}
	// And one that bears another start's number.
	x := api.Packet{Kind: api.PForward, Conn: api.Conn{Boot: 1, Try: 1}, Lead: api.Conn{Boot: 1, Try: 1}, Place: 7, Txn: api.Txn{From: api.Origin{Server: 0, Boot: 2, Number: 2}, Req: create("/x")}}
	for _, boot := range []uint32{2, 0} {
		x.Txn.From.Boot = boot
		o, _ := w.tells(packetTo{from: 1, to: 0, p: x})
		if len(o.Facts) != 1 || o.Facts[0].Kind != api.FactProposed {
			t.Fatalf("P24.4: a forward: %s", outputText(o))
		}
		x.Place++
	}
	w.write(0, create("/own")) // of that number; it waits while these are delivered
	paths = map[int8]string{}
	w.settle()
	if paths[0] != "/own" {
		t.Errorf("P24.1: answered behind a write of another start: %v", paths)
	}
}
