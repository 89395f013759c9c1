package peer_test

import (
	"testing"

	"lagoon/api"
)

// alone is the chapter's server, started.
func alone(t *testing.T) *world {
	c := config(1)
	c.LastEpoch, c.LastCounter = 2, 2
	return begun(t, c)
}

func TestExample1(t *testing.T) {
	c := config(1)
	c.LastEpoch, c.LastCounter = 2, 2
	w := newWorld(t, c, 100000)
	o, e := w.starts(0)
	if e != api.OK || len(o.Sends) != 0 || len(o.Facts) != 1 || !sameFact(o.Facts[0], api.Fact{Kind: api.FactUpAgain}) {
		t.Errorf("example 1: Start = %+v, %d", o, e)
	}
	if v := w.view(0); v.State != api.Looking || v.Durable != (api.Durable{Boot: 1}) || v.Serves || v.Leader != 0 {
		t.Errorf("example 1: View = %+v", v)
	}
	if _, e := w.ask(0, get("/"), api.Watch{}); e != api.ErrLooking {
		t.Errorf("example 1: Ask = %d", e)
	}
	w.refuses(0, api.Input{Kind: api.InWrite, Req: create("/a")}, api.ErrLooking)
}

func TestExample2(t *testing.T) {
	w := alone(t)
	o, _ := w.follow(0, 0)
	if len(o.Facts) != 2 || !sameFact(o.Facts[0], api.Fact{Kind: api.FactInitial, Epoch: 1}) || !sameFact(o.Facts[1], api.Fact{Kind: api.FactEstablished, Epoch: 1}) {
		t.Errorf("example 2: %+v", o)
	}
	if v := w.view(0); v.State != api.Leading || v.Leader != 0 || v.Durable != (api.Durable{Boot: 1, Accepted: 1, Current: 1}) || !v.Serves {
		t.Errorf("example 2: View = %+v", v)
	}
}

func TestExamples3And4(t *testing.T) {
	w := alone(t)
	w.follow(0, 0)
	in := api.Input{Kind: api.InWrite, Req: create("/a")}
	o := w.does(0, in, api.FactProposed, api.FactDelivered, api.FactAnswered)
	if o.Facts[0].Txn.Zxid != z(1, 1) || o.Facts[2].Number != 1 || o.Facts[2].Result.Path != "/a" {
		t.Errorf("example 3: %+v", o)
	}
	o = w.does(0, in, api.FactProposed, api.FactDelivered, api.FactAnswered)
	if o.Facts[0].Txn.Zxid != z(1, 2) || o.Facts[2].Number != 2 || o.Facts[2].Result.Err != api.ErrExists {
		t.Errorf("example 3: %+v", o)
	}
	o = w.does(0, in, api.FactGaveUp, api.FactAnswered)
	if o.Facts[1].Number != 3 || o.Facts[1].Result.Err != api.ErrLooking {
		t.Errorf("example 3: %+v", o)
	}
	o = w.does(0, api.Input{Kind: api.InFollow}, api.FactInitial, api.FactEstablished)
	if o.Facts[0].Epoch != 2 || o.Facts[0].Zxid != z(1, 2) {
		t.Errorf("example 4: %+v", o)
	}
	w.does(0, api.Input{Kind: api.InGiveUp}, api.FactGaveUp)
	w.does(0, api.Input{Kind: api.InFollow}, api.FactGaveUp)
	if v := w.view(0); v.State != api.Looking || v.Serves {
		t.Errorf("example 4: %+v", v)
	}
}
