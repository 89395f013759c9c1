package peer_test

import (
	"slices"
	"testing"

	"lagoon/api"
	"lagoon/peer"
)

// run is a script in which each kind of changes of a store is done, by 0 and 1 as leaders and as followers, by 2 with a copy of the tree.
func run() []func(w *world) {
	return []func(w *world){
		func(w *world) { w.follow(0, 0); w.follow(1, 0) },
		(*world).settle,
		func(w *world) { w.write(0, api.Request{Kind: api.Open, Timeout: 3}); w.write(1, rich("/a")) },
		(*world).settle,
		func(w *world) { w.snap(0); w.snap(1) },
		func(w *world) { w.write(1, create("/b")); w.write(0, create("/c")) },
		(*world).settle,
		func(w *world) { w.follow(2, 0) },
		(*world).settle,
		func(w *world) { w.write(0, create("/lost")); w.net = nil },
		func(w *world) { w.follow(1, 1); w.follow(2, 1) },
		(*world).settle,
		func(w *world) { w.write(2, create("/d")) },
		(*world).settle,
		func(w *world) { w.follow(0, 1) },
		(*world).settle,
		func(w *world) {
			for range 5 {
				w.tick(1)
			}
		},
		(*world).settle,
		func(w *world) { w.snap(0); w.snap(2); w.write(0, create("/e")) },
		(*world).settle,
	}
}

func (w *world) plays(script []func(w *world)) {
	for _, x := range script {
		x(w)
	}
}

// undisturbed is what each step of the run tells.
func undisturbed(t *testing.T) []api.Output {
	w := begun(t, config(1, 1, 1))
	var out []api.Output
	w.told = func(_ int8, o api.Output, e api.Errno) {
		if e != api.OK {
			t.Fatalf("the run is refused: %d", e)
		}
		out = append(out, o)
	}
	w.plays(run())
	for n := range int8(3) {
		if v := w.view(n); !v.Serves || v.Delivered != z(2, 3) || v.Digest != w.view(0).Digest {
			t.Fatalf("the run leaves server %d at %+v", n, v)
		}
	}
	return out
}

// down looks that a server without power is down for good, also when its disk has power again.
func (p *pair) down(t *testing.T) {
	t.Helper()
	for _, again := range []bool{false, true} {
		for kind := range int8(9) {
			if o, e := p.step(t, api.Input{Kind: kind}); e != api.ErrDown || len(o.Facts)+len(o.Sends) > 0 {
				t.Fatalf("P24.1: an input of kind %d, when it is down: %+v, %d", kind, o, e)
			}
		}
		if r, e := p.s.Ask(get("/"), api.Watch{}); e != api.ErrDown || !sameResult(r, api.Result{}) {
			t.Fatalf("P24.1: Ask, when it is down: %+v, %d", r, e)
		}
		if p.s.Up() || p.s.Tree() != nil || !sameView(p.s.View(), api.View{}) {
			t.Fatalf("P24.8: down, it tells %v, %+v", p.s.Up(), p.s.View())
		}
		if !again {
			p.d.Start(9, 9, 9, 9)
			p.twin.Start(9, 9, 9, 9)
		}
	}
}

// TestPowerAtEachWrite: wherever it goes, what was told till then stays told, nothing is sent, and the server is down. What it has when it starts again is what it had ahead of the step or behind it; and it goes on.
func TestPowerAtEachWrite(t *testing.T) {
	all := undisturbed(t)
	for n := range int8(3) {
		for writes := 0; ; writes++ {
			w := begun(t, config(1, 1, 1))
			w.arm(n, writes)
			var before api.View
			at := w.view(n)
			w.told = func(who int8, o api.Output, e api.Errno) {
				if who != n {
					return
				}
				before, at = at, w.view(n)
				if e == api.OK {
					return
				}
				w.halt = true
				facts := all[w.steps-1].Facts
				if e != api.ErrDown || len(o.Sends) > 0 || len(o.Facts) > len(facts) || !slices.EqualFunc(o.Facts, facts[:min(len(facts), len(o.Facts))], sameFact) {
					t.Fatalf("P24.1: the power of %d goes at the write %d: %s, %d", n, writes, outputText(o), e)
				}
			}
			w.plays(run())
			if !w.halt {
				break // the run is over ahead of it
			}
			w.halt, w.told, w.net = false, nil, nil
			w.all[n].down(t)
			w.all[n].d.Off()
			w.all[n].twin.Off()
			w.starts(n, 7)
			v := w.view(n)
			if v.Durable.Accepted < before.Durable.Accepted || v.Durable.Current < before.Durable.Current || v.Durable.Boot <= before.Durable.Boot {
				t.Fatalf("W3: behind a loss of power the server %d has %+v, ahead of it %+v", n, v.Durable, before.Durable)
			}
			w.recovers()
		}
	}
}

// recovers lets the best of all lead anew, and the others follow it (W6).
func (w *world) recovers() {
	w.t.Helper()
	best := int8(0)
	for n := range w.all {
		a, b := w.view(int8(n)).Durable, w.view(best).Durable
		if a.Current > b.Current || a.Current == b.Current && (a.Last.Epoch > b.Last.Epoch || a.Last.Epoch == b.Last.Epoch && a.Last.N > b.Last.N) {
			best = int8(n)
		}
	}
	w.net = nil
	w.follow(best, best)
	for n := range w.all {
		if int8(n) != best {
			w.follow(int8(n), best)
		}
	}
	w.settle()
	for n := range w.all {
		v := w.view(int8(n))
		if !v.Serves || v.Delivered != w.view(best).Durable.Last || v.Digest != w.view(best).Digest || v.Durable.Last != v.Delivered {
			w.t.Fatalf("W6: server %d behind the recovery: %+v, the leader %d: %+v", n, v, best, w.view(best))
		}
	}
}

// TestPowerBehindThePut: it goes where the store clears, and answers OK: what is durable is told all the same, but nothing is sent.
func TestPowerBehindThePut(t *testing.T) {
	w := begun(t, config(1, 1))
	w.follow(0, 0)
	w.follow(1, 0)
	w.until(api.PNewLeader)
	w.arm(1, 2+3) // the new log's segment, the manifest; the elder log is to be removed then
	o, e := w.take(0)
	if e != api.ErrDown || !slices.Equal(kindsOf(o.Facts), []int8{api.FactTook}) || len(o.Sends) > 0 {
		t.Errorf("P24.1: NewLeader is taken, but the power goes: %+v, %d", o, e)
	}
	w.all[1].down(t)
	w.off(1)
	w.starts(1)
	if v := w.view(1); v.Durable.Current != 1 {
		t.Errorf("P24.1: %+v", v)
	}

	w = led(t, config(1, 1), 1)
	w.write(0, create("/a"))
	w.settle()
	for n := range int8(2) {
		w.arm(n, 2+2+3)
		if o, e := w.snap(n); e != api.ErrDown || len(o.Facts)+len(o.Sends) > 0 {
			t.Errorf("P24.1: InSnap is done, but the power goes: %+v, %d", o, e)
		}
		w.all[n].down(t)
		w.off(n)
		w.starts(n)
		if v := w.view(n); v.Durable.Snap != z(1, 1) || v.Delivered != z(1, 1) {
			t.Errorf("P24.1: %+v", v)
		}
	}
}

// TestPowerBehindARefusal: where there is no room, and then no power for the clearing, it does not give up.
func TestPowerBehindARefusal(t *testing.T) {
	w := led(t, config(1, 1), 1)
	w.write(0, create("/a"))
	w.settle()
	for n := range int8(2) {
		w.ask(n, get("/"), api.Watch{Kind: 1, Path: "/"})
		w.fills(n, 220) // for the image, not for the log and the manifest
		w.arm(n, 2)
		if o, e := w.snap(n); e != api.ErrDown || len(o.Facts)+len(o.Sends) > 0 {
			t.Errorf("P24.1: no room, no power: %+v, %d", o, e)
		}
		w.all[n].down(t)
	}
}

// TestPowerAtAnAsk: without power neither a step nor an Ask begins, and it is down from then on.
func TestPowerAtAnAsk(t *testing.T) {
	for _, asks := range []bool{false, true} {
		w := led(t, config(1, 1), 1)
		for n := range int8(2) {
			w.off(n)
			if p := w.all[n]; p.s.Up() || p.s.Tree() != nil || !sameView(p.s.View(), api.View{}) {
				t.Errorf("P24.8: the disk has no power: %+v", p.s.View())
			}
			if asks {
				if _, e := w.ask(n, get("/"), api.Watch{Kind: 1, Path: "/"}); e != api.ErrDown {
					t.Errorf("P24.7: Ask = %d", e)
				}
			} else {
				w.refuses(n, api.Input{Kind: api.InGiveUp}, api.ErrDown)
			}
			w.all[n].d.Start()
			w.all[n].twin.Start()
			w.all[n].down(t)
		}
	}
}

// TestUpIsAsked: as its disk has power when it is asked; that alone brings nobody down.
func TestUpIsAsked(t *testing.T) {
	w := led(t, config(1))
	w.off(0)
	if w.all[0].s.Up() {
		t.Error("P24.8: Up without power")
	}
	w.all[0].d.Start()
	w.all[0].twin.Start()
	if s := w.all[0].s; !s.Up() || s.Tree() == nil || s.View().State != api.Leading {
		t.Error("P24.8: no step and no Ask came while there was no power")
	}
	var none *peer.Server
	if none.Up() || (&peer.Server{}).Up() {
		t.Error("P24.8: none is up")
	}
}
