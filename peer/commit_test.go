package peer_test

import (
	"slices"
	"testing"

	"lagoon/api"
	"lagoon/packet"
	"lagoon/peer"
	"lagoon/ztree"
)

// sent are the kinds of what was sent, and to whom.
func sent(t *testing.T, o api.Output) [][2]int8 {
	t.Helper()
	var out [][2]int8
	for _, x := range packets(t, o) {
		out = append(out, [2]int8{x.to, x.p.Kind})
	}
	return out
}

// TestWhoIsTold: of a proposal all from 3 on, of a commit those at 5 alone; who is at 4 is told that it is up, when its H is committed, behind the commit that does it.
func TestWhoIsTold(t *testing.T) {
	w := led(t, config(1, 1, 1, 1, 1, 0, 0), 1, 2)
	w.write(0, create("/a"))
	acks := w.firstHop()
	w.follow(5, 0) // known
	w.take(0)
	w.net = nil
	w.follow(6, 0)
	w.until(api.PNewLeader) // brought up, has answered nothing to that
	w.net = nil
	w.follow(4, 0)
	w.until(api.PAckLeader) // has answered, but the answer is lost
	w.net = nil
	w.follow(3, 0)
	w.until(api.PAckLeader)
	o, _ := w.take(0)
	if len(o.Facts)+len(o.Sends) > 0 { // 0 and 3 have all of its H; that is no quorum
		t.Fatalf("P24.5: an acknowledged leadership, but no committed H: %s", outputText(o))
	}
	o = w.does(0, api.Input{Kind: api.InWrite, Req: create("/b")}, api.FactProposed)
	if want := [][2]int8{{1, api.PPropose}, {2, api.PPropose}, {3, api.PPropose}, {4, api.PPropose}, {6, api.PPropose}}; !slices.Equal(sent(t, o), want) {
		t.Errorf("P24.5: a proposal is sent %v, not %v", sent(t, o), want)
	}
	later := w.firstHop() // the acknowledgements of that
	o, _ = w.hears(0, 3, later[2].bytes)
	if later[2].from != 3 || len(o.Facts)+len(o.Sends) > 0 {
		t.Errorf("P24.5: one of two more that are wanted: %s", outputText(o))
	}
	o, _ = w.hears(0, 1, acks[0].bytes)
	if want := [][2]int8{{1, api.PCommit}, {2, api.PCommit}, {3, api.PUpToDate}}; !slices.Equal(sent(t, o), want) || !slices.Equal(kindsOf(o.Facts), []int8{api.FactDelivered, api.FactAnswered}) {
		t.Errorf("P24.5: a commit is sent %v, not %v: %s", sent(t, o), want, outputText(o))
	}
	for _, x := range packets(t, o) {
		if x.p.Zxid != z(1, 1) {
			t.Errorf("P24.5: %+v", x)
		}
	}
	o, _ = w.hears(0, 2, acks[1].bytes)
	if len(o.Facts)+len(o.Sends) > 0 {
		t.Errorf("P24.5: what is committed is acknowledged once more: %s", outputText(o))
	}
	o, _ = w.hears(0, 1, later[0].bytes) // 3 has acknowledged it while it stood at 4
	if want := [][2]int8{{1, api.PCommit}, {2, api.PCommit}, {3, api.PCommit}}; !slices.Equal(sent(t, o), want) || len(o.Facts) != 2 {
		t.Errorf("P24.5: the next commit is sent %v, not %v: %s", sent(t, o), want, outputText(o))
	}
}

// firstHop lets all arrive that is under way, and keeps what is sent then.
func (w *world) firstHop() []message {
	w.t.Helper()
	now := w.net
	w.net = nil
	for _, x := range now {
		w.hears(x.to, x.from, x.bytes)
	}
	out := w.net
	w.net = nil
	return out
}

// TestUpAtOnce: where all of its H is committed when it acknowledges the leadership, it is told in that step, and what is committed then, which may be above its H.
func TestUpAtOnce(t *testing.T) {
	w := led(t, config(1, 1, 1), 1)
	w.write(0, create("/a"))
	w.settle()
	w.follow(2, 0)
	w.until(api.PNewLeader)
	late := w.net // up to its NewLeader
	w.net = nil
	w.write(0, create("/b"))
	propose := w.net[1]
	w.net = w.net[:1]
	w.settle()
	w.hears(2, 0, late[0].bytes)
	o, _ := w.take(0)
	if x := packets(t, o); len(x) != 1 || x[0].p.Kind != api.PUpToDate || x[0].p.Zxid != z(1, 2) {
		t.Fatalf("P24.5: %s", outputText(o))
	}
	up := w.net[0]
	w.net = nil
	o, _ = w.hears(2, 0, propose.bytes)
	if len(o.Facts) > 0 || len(o.Sends) != 1 {
		t.Errorf("P24.6: a proposal ahead of its UpToDate: %s", outputText(o))
	}
	o, _ = w.hears(2, 0, up.bytes)
	if want := []int8{api.FactDelivered, api.FactDelivered, api.FactUp}; !slices.Equal(kindsOf(o.Facts), want) || o.Facts[2].Zxid != z(1, 2) {
		t.Errorf("P24.6: an UpToDate: %s", outputText(o))
	}
}

// TestDelivers: each transaction, then the watches that each of its changes meets, in the board's order, then the answer; at whoever delivers it.
func TestDelivers(t *testing.T) {
	for n := range int8(2) {
		w := led(t, config(1, 1), 1)
		for _, x := range []api.Watch{{Client: 3, Kind: api.WatchBelow, Path: "/"}, {Client: 1, Kind: api.WatchData, Path: "/a"}, {Client: 2, Kind: api.WatchChild, Path: "/"}} {
			w.ask(n, get("/"), x)
		}
		var told []api.Fact
		w.told = func(who int8, o api.Output, _ api.Errno) {
			for _, f := range o.Facts {
				if who == n && f.Kind != api.FactProposed {
					told = append(told, f)
				}
			}
		}
		w.write(n, create("/a"))
		w.settle()
		w.write(1-n, set("/a", "x"))
		w.settle()
		w.write(n, create("/a"))
		w.settle()
		want := []struct {
			kind   int8
			client int64
			change api.Change
		}{
			{kind: api.FactDelivered},
			{api.FactFired, 3, api.Change{Kind: api.Made, Path: "/a"}}, {api.FactFired, 1, api.Change{Kind: api.Made, Path: "/a"}},
			{api.FactFired, 2, api.Change{Kind: api.Childs, Path: "/"}},
			{kind: api.FactAnswered},
			{kind: api.FactDelivered},
			{api.FactFired, 3, api.Change{Kind: api.Changed, Path: "/a"}},
			{kind: api.FactDelivered},
			{kind: api.FactAnswered},
		}
		if len(told) != len(want) {
			t.Fatalf("P24.1: server %d tells %v: %+v", n, kindsOf(told), told)
		}
		for i, f := range told {
			if f.Kind != want[i].kind || f.Fired.Watch.Client != want[i].client || f.Fired.Change != want[i].change {
				t.Errorf("P24.1: server %d: the fact %d is %+v, not %+v", n, i, f, want[i])
			}
		}
	}
}

// TestAloneAnswers: a server alone answers each write in its step, with what its tree makes of it.
func TestAloneAnswers(t *testing.T) {
	w := led(t, config(1))
	tree := ztree.New()
	for i, r := range []api.Request{
		create("/a"), create("/a"), rich("/a/b"), set("/a", "x"), set("/none", "y"), open(3), ephemeral("/e", id(1, 6)), ephemeral("/f", 5),
		{Kind: api.Create, Path: "/a/s", Sequence: true}, {Kind: api.Delete, Path: "/a", Version: -1}, {Kind: api.Delete, Path: "/a/b", Version: 7},
		{Kind: api.Check, Path: "/a", Version: 1}, {Kind: api.SetAcl, Path: "/a", Version: -1}, {Kind: api.Close, Session: id(1, 6)}, {Kind: api.Close, Session: 9},
		{Kind: api.Multi, Ops: []api.Request{create("/m"), create("/m")}},
	} {
		x := api.Txn{Zxid: z(1, uint32(i+1)), From: api.Origin{Boot: 1, Number: int64(i + 1)}, Req: r}
		want, _ := tree.Apply(x)
		o := w.does(0, api.Input{Kind: api.InWrite, Req: r}, api.FactProposed, api.FactDelivered, api.FactAnswered)
		if !sameFact(o.Facts[0], api.Fact{Kind: api.FactProposed, Txn: x}) || !sameFact(o.Facts[1], api.Fact{Kind: api.FactDelivered, Txn: x, Result: want}) ||
			!sameFact(o.Facts[2], api.Fact{Kind: api.FactAnswered, Number: int64(i + 1), Result: want}) {
			t.Errorf("P24.5: the write %d: %s", i+1, outputText(o))
		}
		if v := w.view(0); v.Committed != x.Zxid || v.Delivered != x.Zxid || !ztree.Same(w.all[0].s.Tree(), tree) {
			t.Errorf("P24.5: behind the write %d: %+v", i+1, v)
		}
	}
}

// TestAloneHasAll: in the step in which it is told to lead it has delivered all that it has.
func TestAloneHasAll(t *testing.T) {
	w := led(t, config(1))
	w.write(0, create("/a"))
	w.snap(0)
	w.write(0, create("/b"))
	w.write(0, create("/c"))
	w.off(0)
	w.starts(0)
	if v := w.view(0); v.Delivered != z(1, 1) || v.Committed != z(1, 1) || v.Durable.Last != z(1, 3) {
		t.Fatalf("P24.2: %+v", v)
	}
	o := w.does(0, api.Input{Kind: api.InFollow}, api.FactInitial, api.FactEstablished, api.FactDelivered, api.FactDelivered)
	if f := o.Facts[0]; f.Epoch != 2 || f.Zxid != z(1, 3) || f.Snap != z(1, 1) || len(f.Log) != 2 {
		t.Errorf("P24.5: %s", outputText(o))
	}
	if v := w.view(0); v.Committed != z(1, 3) || v.Delivered != z(1, 3) || !v.Serves {
		t.Errorf("P24.5: %+v", v)
	}
}

// TestTwice: a packet that is told twice, at once or later, is taken once.
func TestTwice(t *testing.T) {
	w := begun(t, config(1, 1, 1))
	w.follow(0, 0)
	w.follow(1, 0)
	w.follow(2, 0)
	var elder []message
	play := func() {
		for len(w.net) > 0 {
			x := w.net[0]
			w.take(0)
			elder = append(elder, x)
			for _, y := range []message{x, elder[len(elder)/2]} {
				if o, e := w.hears(y.to, y.from, y.bytes); e != api.OK || len(o.Facts)+len(o.Sends) > 0 {
					p, _ := packet.Read(y.bytes)
					t.Fatalf("P24.4: %+v twice: %s", p, outputText(o))
				}
			}
		}
	}
	play()
	for i := range 6 {
		w.write(int8(i%3), api.Request{Kind: api.Create, Path: "/s", Sequence: true})
		w.do(2, api.Input{Kind: api.InPing, Session: 1})
		play()
	}
	for n := range int8(3) {
		if v := w.view(n); v.Delivered != z(1, 6) || !v.Serves {
			t.Errorf("P24.4: server %d: %+v", n, v)
		}
	}
}

// TestNoServers: a server that there is none, and one that Start did not make.
func TestNoServers(t *testing.T) {
	for _, s := range []*peer.Server{nil, {}} {
		for kind := range int8(9) {
			if o, e := s.Do(api.Input{Kind: kind}); e != api.ErrArg || len(o.Facts)+len(o.Sends) > 0 {
				t.Errorf("R3: Do of none = %+v, %d", o, e)
			}
		}
		if r, e := s.Ask(get("/"), api.Watch{Kind: 1, Path: "/"}); e != api.ErrArg || !sameResult(r, api.Result{}) {
			t.Errorf("R3: Ask of none = %+v, %d", r, e)
		}
		if !sameView(s.View(), api.View{}) || s.Tree() != nil || s.Up() {
			t.Errorf("R3: View of none = %+v", s.View())
		}
	}
}
