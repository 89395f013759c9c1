package peer_test

import (
	"fmt"
	"testing"

	"lagoon/api"
	"lagoon/ztree"
)

// TestAsks: what its tree tells, as delivered, at a leader and at a follower; an error stands in the result.
func TestAsks(t *testing.T) {
	w := led(t, config(1, 1), 1)
	w.write(0, rich("/a"))
	w.settle()
	w.write(0, create("/a/b")) // proposed, not delivered
	for n := range int8(2) {
		if r, e := w.ask(n, get("/a"), api.Watch{}); e != api.OK || r.Err != api.OK || string(r.Data) != "de" || r.Stat.Version != 1 || r.Stat.Made != z(1, 1) {
			t.Errorf("P24.7: server %d: %+v, %d", n, r, e)
		}
		for r, want := range map[*api.Request]api.Errno{
			{Kind: api.GetData, Path: "/a/b"}: api.ErrNoNode,
			{Kind: api.Exists, Path: "/none"}: api.ErrNoNode,
			{Kind: api.GetData, Path: "none"}: api.ErrTxn,
			{Kind: api.Create, Path: "/x"}:    api.ErrTxn,
			{}:                                api.ErrTxn,
			{Kind: 99}:                        api.ErrTxn,
			{Kind: api.GetData, Path: "/a", Timeout: -9}: api.ErrTxn,
		} {
			got, e := w.ask(n, *r, api.Watch{})
			tree := w.all[n].s.Tree().Ask(*r)
			if e != api.OK || got.Err == api.OK || !sameResult(got, tree) || want == api.ErrNoNode && got.Err != want {
				t.Errorf("P24.7: server %d: Ask(%+v) = %+v, %d, its tree's is %+v", n, *r, got, e, tree)
			}
		}
	}
	w.settle()
	for n := range int8(2) {
		if r, e := w.ask(n, get("/a/b"), api.Watch{}); e != api.OK || r.Err != api.OK {
			t.Errorf("P24.7: server %d, behind its delivery: %+v, %d", n, r, e)
		}
	}
}

// TestAskServesNobody: while it looks, leads without a quorum, or follows and is not up; that is ahead of a bad watch.
func TestAskServesNobody(t *testing.T) {
	w := begun(t, config(1, 1, 1))
	ask := func(what string) {
		t.Helper()
		for n := range int8(2) {
			for kind := range int8(6) {
				if r, e := w.ask(n, get("/"), api.Watch{Kind: kind, Path: "bad"}); e != api.ErrLooking || !sameResult(r, api.Result{}) {
					t.Errorf("P24.7: %s: Ask at %d = %+v, %d", what, n, r, e)
				}
			}
		}
	}
	ask("looking")
	w.follow(0, 0)
	w.follow(1, 0)
	ask("asking")
	for _, kind := range []int8{api.PEpoch, api.PAckEpoch, api.PNewLeader, api.PAckLeader} {
		w.until(kind)
		ask(fmt.Sprintf("ahead of the packet %d", kind))
	}
	w.settle()
	if _, e := w.ask(1, get("/"), api.Watch{}); e != api.OK {
		t.Errorf("P24.7: up: %d", e)
	}
}

// TestAskLeavesAWatch: whatever the result is; but not where the watch is refused, and then nothing is answered.
func TestAskLeavesAWatch(t *testing.T) {
	for n := range int8(2) {
		w := led(t, config(1, 1), 1)
		watches := 0
		w.told = func(who int8, o api.Output, _ api.Errno) {
			for _, f := range o.Facts {
				if who == n && f.Kind == api.FactFired {
					watches++
				}
			}
		}
		for _, x := range []api.Watch{{Kind: 5, Path: "/"}, {Kind: -1, Path: "/"}, {Kind: api.WatchBelow}, {Kind: api.WatchBelow, Path: "/a/"}, {Kind: api.WatchData, Path: "a"}} {
			if r, e := w.ask(n, get("/"), x); e != api.ErrArg || !sameResult(r, api.Result{}) {
				t.Errorf("P24.7: a watch %+v: %+v, %d", x, r, e)
			}
		}
		for _, x := range []api.Watch{{Client: 1, Path: "/"}, {Path: "bad"}} { // no kind: none is wanted
			if _, e := w.ask(n, get("/"), x); e != api.OK {
				t.Errorf("P24.7: a watch %+v: %d", x, e)
			}
		}
		w.ask(n, get("/none"), api.Watch{Client: 1, Kind: api.WatchData, Path: "/none"})
		w.ask(n, api.Request{Kind: 77}, api.Watch{Client: 2, Kind: api.WatchBelow, Path: "/none"})
		w.ask(n, get("/"), api.Watch{Client: 1, Kind: api.WatchData, Path: "/none"}) // the same
		w.write(1-n, create("/none"))
		w.settle()
		if watches != 2 {
			t.Errorf("P24.7: %d watches were told of a node that came", watches)
		}
		watches = 0
		w.write(n, set("/none", "x"))
		w.settle()
		if watches != 1 {
			t.Errorf("P24.7: %d watches were told of its change", watches)
		}
	}
}

// TestAskAtTheLastWatch: 64 of them; one beyond is refused, the same one again is not.
func TestAskAtTheLastWatch(t *testing.T) {
	w := led(t, config(1, 1), 1)
	for n := range int8(2) {
		for i := range int64(api.MaxWatches) {
			if _, e := w.ask(n, get("/"), api.Watch{Client: i, Kind: api.WatchStay, Path: "/a"}); e != api.OK {
				t.Fatalf("P24.7: watch %d: %d", i, e)
			}
		}
		if r, e := w.ask(n, get("/"), api.Watch{Client: -1, Kind: api.WatchStay, Path: "/a"}); e != api.ErrWatch || !sameResult(r, api.Result{}) {
			t.Errorf("P24.7: a watch too many: %+v, %d", r, e)
		}
		if _, e := w.ask(n, get("/"), api.Watch{Client: 5, Kind: api.WatchStay, Path: "/a"}); e != api.OK {
			t.Errorf("P24.7: one that is there: %d", e)
		}
		if _, e := w.ask(n, get("/"), api.Watch{}); e != api.OK {
			t.Errorf("P24.7: none is wanted: %d", e)
		}
	}
	w.write(0, create("/a"))
	w.settle()
	w.tick(1)
	o, _ := w.gives(1)
	if len(o.Facts) != 1+api.MaxWatches {
		t.Errorf("P24.7: %d facts of %d watches", len(o.Facts), api.MaxWatches)
	}
}

// TestOfItsOwn: a tree, a log that a server tells is its holder's: what is done with it is not seen at the server, nor the other way.
func TestOfItsOwn(t *testing.T) {
	w := led(t, config(1, 1), 1)
	w.write(0, rich("/a"))
	w.settle()
	for n := range int8(2) {
		s := w.all[n].s
		tree, other, had := s.Tree(), s.Tree(), s.View().Delivered
		tree.Apply(api.Txn{Zxid: z(9, 9), Req: create("/mine")})
		if ztree.Same(tree, other) || !ztree.Same(other, s.Tree()) || s.View().Delivered != had {
			t.Errorf("P24.8: server %d: its tree is shared", n)
		}
		v := s.View()
		spoilRequest(v.Log[0].Req)
		clear(full(v.Log))
		w.all[n].agrees(t, "P24.8: behind writing over a view")
		w.write(0, set("/a", "x"))
		w.settle()
		if other.Last() != had || s.Tree().Last() == had {
			t.Errorf("P24.8: server %d: a tree that was told goes on with it", n)
		}
	}
}

// TestResultsOfTheirOwn: what is delivered and what is answered share nothing, nor do what is proposed and what is delivered.
func TestResultsOfTheirOwn(t *testing.T) {
	w := led(t, config(1))
	s := w.all[0].s
	r := rich("/a")
	o, e := s.Do(api.Input{Kind: api.InWrite, Req: r})
	if e != api.OK || len(o.Facts) != 3 || len(o.Facts[2].Result.Results) != 2 {
		t.Fatalf("%s, %d", outputText(o), e)
	}
	keep := cloneOutput(o)
	for i := range o.Facts {
		one := api.Output{Facts: o.Facts[i : i+1 : i+1]}
		spoilOutput(one)
		for j := i + 1; j < len(o.Facts); j++ {
			if !sameFact(o.Facts[j], keep.Facts[j]) {
				t.Errorf("R5: the fact %d shares memory with the fact %d", i, j)
			}
		}
	}
	if d, _ := s.Ask(get("/a"), api.Watch{}); string(d.Data) != "de" {
		t.Errorf("R5: %+v", d)
	}
}
