package peer_test

import (
	"math"
	"testing"

	"lagoon/api"
)

// stands are worlds in which server 0, or 1, is in each state that P24.3 tells apart.
type stands struct {
	name   string
	me     int8
	serves bool
	make   func(t *testing.T) *world
}

func everywhere() []stands {
	c := func() api.Config { return config(1, 1, 1) }
	at := func(kind int8) func(t *testing.T) *world {
		return func(t *testing.T) *world {
			w := begun(t, c())
			w.follow(0, 0)
			w.follow(1, 0)
			w.until(kind)
			return w
		}
	}
	return []stands{
		{"looks", 0, false, func(t *testing.T) *world { return begun(t, c()) }},
		{"leads, without an epoch", 0, false, at(api.PInfo)},
		{"leads, without a history", 0, false, at(api.PEpoch)},
		{"leads, with its history, not established", 0, false, at(api.PNewLeader)},
		{"leads, established", 0, true, func(t *testing.T) *world { return led(t, c(), 1) }},
		{"follows, waits for the epoch", 1, false, at(api.PInfo)},
		{"follows, gathers", 1, false, at(api.PAckEpoch)},
		{"follows, has acknowledged", 1, false, at(api.PAckLeader)},
		{"follows, and is up", 1, true, func(t *testing.T) *world { return led(t, c(), 1) }},
	}
}

// filled are inputs of a kind each of which has one field that the kind may not name, or whose value it may not have.
func filled(kind int8) []api.Input {
	names := map[int8]string{api.InFollow: "O", api.InPacket: "OB", api.InWrite: "R", api.InPing: "S"}[kind]
	has := func(letter byte) bool {
		for i := range names {
			if names[i] == letter {
				return true
			}
		}
		return false
	}
	in := api.Input{Kind: kind}
	if has('S') {
		in.Session = 1
	}
	if has('R') {
		in.Req = create("/a")
	}
	var out []api.Input
	add := func(turn func(in *api.Input)) {
		x := in
		turn(&x)
		out = append(out, x)
	}
	if has('O') {
		for _, n := range []int8{-1, 3, 7, math.MinInt8, math.MaxInt8} {
			add(func(in *api.Input) { in.Other = n })
		}
	} else {
		add(func(in *api.Input) { in.Other = 1 })
		add(func(in *api.Input) { in.Other = -1 })
	}
	if !has('B') {
		add(func(in *api.Input) { in.Bytes = []byte{0} })
	}
	if has('S') {
		for _, n := range []int64{0, -1, math.MinInt64} {
			add(func(in *api.Input) { in.Session = n })
		}
	} else {
		add(func(in *api.Input) { in.Session = 1 })
		add(func(in *api.Input) { in.Session = -1 })
	}
	if !has('R') {
		for _, r := range []api.Request{
			{Kind: 1}, {Kind: -1}, {Path: "/"}, {Data: []byte{0}}, {Acl: make([]api.Entry, 1)}, {Version: -1}, {Ephemeral: true}, {Sequence: true},
			{Session: 1}, {Timeout: 1}, {Who: make([]api.Id, 1)}, {Ops: make([]api.Request, 1)},
		} {
			add(func(in *api.Input) { in.Req = r })
		}
	}
	return out
}

// TestNoInputs: what is none is none in every state, and ahead of what the state says.
func TestNoInputs(t *testing.T) {
	for _, x := range everywhere() {
		w := x.make(t)
		for kind := api.InFollow; kind <= api.InGiveUp; kind++ {
			for _, in := range filled(kind) {
				w.refuses(x.me, in, api.ErrArg)
			}
		}
		for _, kind := range []int8{0, -1, 8, math.MinInt8, math.MaxInt8} {
			w.refuses(x.me, api.Input{Kind: kind}, api.ErrArg)
		}
		w.settle()
	}
}

// TestEmptyLists: a list that is there without an element is none (R4).
func TestEmptyLists(t *testing.T) {
	for _, kind := range []int8{api.InSnap, api.InTick, api.InPing, api.InWrite, api.InPacket, api.InGiveUp, api.InFollow} {
		w := led(t, config(1, 1, 1), 1)
		in := api.Input{Kind: kind, Bytes: []byte{}, Req: api.Request{Data: []byte{}, Acl: []api.Entry{}, Who: []api.Id{}, Ops: []api.Request{}}}
		switch kind {
		case api.InPing:
			in.Session = 1
		case api.InWrite:
			in.Req.Kind, in.Req.Path = api.Create, "/a"
		}
		if _, e := w.do(0, in); e != api.OK {
			t.Errorf("R4: an input of kind %d with lists without elements: %d", kind, e)
		}
	}
}

// noWrites are requests that are none, and such as read.
func noWrites() []api.Request {
	out := []api.Request{{}, {Kind: -1}, {Kind: 13}, {Kind: api.Open}, {Kind: api.Open, Timeout: 1001}, {Kind: api.Close}, {Kind: api.Multi}, {Kind: api.Delete, Path: "/a", Data: []byte{1}},
		{Kind: api.Create, Path: "/a", Data: make([]byte, 97)}, {Kind: api.Create, Path: "/a", Session: -1}}
	for kind := api.GetData; kind <= api.GetAcl; kind++ {
		out = append(out, api.Request{Kind: kind, Path: "/"})
	}
	return out
}

// TestServesNobody: who does not serve refuses what is of clients; a request that is none is that first.
func TestServesNobody(t *testing.T) {
	for _, x := range everywhere() {
		w := x.make(t)
		for _, r := range noWrites() {
			w.refuses(x.me, api.Input{Kind: api.InWrite, Req: r}, api.ErrTxn)
		}
		if v := w.view(x.me); v.Serves != x.serves {
			t.Errorf("%s: Serves is %v", x.name, v.Serves)
		}
		if x.serves {
			continue
		}
		w.refuses(x.me, api.Input{Kind: api.InWrite, Req: create("/a")}, api.ErrLooking)
		w.refuses(x.me, api.Input{Kind: api.InPing, Session: 1}, api.ErrLooking)
		w.refuses(x.me, api.Input{Kind: api.InSnap}, api.ErrLooking)
		w.does(x.me, api.Input{Kind: api.InTick})
		for _, a := range []api.Watch{{}, {Kind: 9}, {Kind: 1, Path: "/"}} {
			if _, e := w.ask(x.me, get("/"), a); e != api.ErrLooking {
				t.Errorf("P24.7: %s: Ask = %d", x.name, e)
			}
		}
		w.settle()
		if n := w.view(x.me).Durable.Last; n != (api.Zxid{}) {
			t.Errorf("P24.3: %s: what was refused is in its history", x.name)
		}
	}
}

// TestWrites: their numbers go on from 1, also where nobody waits for the elder ones any more; a refused one has none.
func TestWrites(t *testing.T) {
	w := led(t, config(1, 1, 1), 1)
	for n := range int64(3) {
		w.write(0, api.Request{})
		o := w.does(0, api.Input{Kind: api.InWrite, Req: rich("/r" + string(rune('0'+n)))}, api.FactProposed)
		if from := o.Facts[0].Txn.From; from != (api.Origin{Server: 0, Boot: 1, Number: n + 1}) {
			t.Errorf("P24.3: the write %d comes from %+v", n+1, from)
		}
		o = w.does(1, api.Input{Kind: api.InWrite, Req: rich("/s")})
		x := packets(t, o)[0]
		if x.to != 0 || x.p.Kind != api.PForward || x.p.Txn.From != (api.Origin{Server: 1, Boot: 1, Number: n + 1}) || x.p.Txn.Zxid != z(0, 0) {
			t.Errorf("P24.3: the write %d was sent as %+v", n+1, x)
		}
	}
	w.gives(0)
	w.gives(1)
	w.net = nil
	w.follow(0, 0)
	w.follow(1, 0)
	w.settle()
	o := w.does(0, api.Input{Kind: api.InWrite, Req: create("/x")}, api.FactProposed)
	if n := o.Facts[0].Txn.From.Number; n != 4 {
		t.Errorf("P24.3: a write behind three has the number %d", n)
	}
	w.settle()
	w.off(1)
	w.do(1, api.Input{Kind: api.InTick})
	w.starts(1)
	w.follow(1, 0)
	w.settle()
	o = w.does(1, api.Input{Kind: api.InWrite, Req: create("/y")})
	if from := packets(t, o)[0].p.Txn.From; from != (api.Origin{Server: 1, Boot: 2, Number: 1}) {
		t.Errorf("P24.3: the first write behind a start comes from %+v", from)
	}
}

// TestPings: a leader that serves begins the session's time anew, a follower says it to its leader, which does.
func TestPings(t *testing.T) {
	for _, at := range []int8{0, 1, 9} {
		w := led(t, config(1, 1, 1), 1)
		w.write(0, api.Request{Kind: api.Open, Timeout: 4})
		w.settle()
		id := int64(1<<32 + 1)
		for range 20 {
			for range 3 {
				if o := w.tick(0); len(o.Facts) > 0 && at != 9 {
					t.Fatalf("P24.3: a session that is touched at %d: %+v", at, o)
				}
			}
			if at != 9 {
				w.does(at, api.Input{Kind: api.InPing, Session: id})
				w.does(at, api.Input{Kind: api.InPing, Session: 77}) // there is none: passed over
				w.settle()
			}
		}
		if over := len(w.view(0).Log) != 1; over != (at == 9) {
			t.Errorf("P24.3: touched at %d: it is over: %v", at, over)
		}
	}
}

// TestSnaps: who serves makes its tree its snapshot, whether it leads or follows.
func TestSnaps(t *testing.T) {
	w := led(t, config(1, 1, 1), 1)
	w.write(0, create("/a"))
	w.settle()
	w.write(0, create("/b")) // not committed yet
	for n := range int8(2) {
		w.snap(n)
		if v := w.view(n); v.Durable.Snap != z(1, 1) || v.Delivered != z(1, 1) {
			t.Errorf("P24.3: behind InSnap: %+v", v)
		}
		before := w.all[n].d.Writes()
		w.snap(n)
		if w.all[n].d.Writes() != before {
			t.Errorf("P24.3: the same again wrote something")
		}
	}
	w.settle()
	if v := w.view(1); v.Delivered != z(1, 2) || v.Durable.Snap != z(1, 1) || len(v.Log) != 1 {
		t.Errorf("P24.3: behind InSnap: %+v", v)
	}
}

// TestFollow: whom, with which numbers; who never counts does not lead, but follows.
func TestFollow(t *testing.T) {
	w := begun(t, config(1, 0, 1))
	w.refuses(1, api.Input{Kind: api.InFollow, Other: 1}, api.ErrServer)
	for try := range uint32(4) {
		whom := int8(2 * (try % 2))
		want := []int8{api.FactGaveUp}
		if try == 0 {
			want = nil
		}
		x := packets(t, w.does(1, api.Input{Kind: api.InFollow, Other: whom}, want...))
		info := api.Packet{Kind: api.PInfo, Conn: api.Conn{Boot: 1, Try: try + 1}}
		if len(x) != 1 || x[0].to != whom || string(bytesOf(t, x[0].p)) != string(bytesOf(t, info)) {
			t.Errorf("P24.3: the try %d sends %+v", try, x)
		}
		if v := w.view(1); v.State != api.Following || v.Leader != whom || v.Serves {
			t.Errorf("P24.8: View = %+v", v)
		}
	}
	w.refuses(1, api.Input{Kind: api.InFollow, Other: 1}, api.ErrServer)
	if v := w.view(1); v.State != api.Following {
		t.Errorf("P24.3: refused, it goes on: %+v", v)
	}
	w.does(1, api.Input{Kind: api.InGiveUp}, api.FactGaveUp)
	w.does(1, api.Input{Kind: api.InGiveUp})
	if v := w.view(1); v.State != api.Looking || v.Leader != 0 {
		t.Errorf("P24.3: %+v", v)
	}
}

// TestLeadsAnew: each time that it is told to lead it is another leadership.
func TestLeadsAnew(t *testing.T) {
	w := begun(t, config(1, 1))
	w.follow(1, 0)
	for try := range uint32(3) {
		w.follow(0, 0)
		w.follow(1, 0)
		if x := w.until(api.PEpoch); x.p.Lead != (api.Conn{Boot: 1, Try: try + 1}) || x.p.Epoch != try+1 {
			t.Errorf("P24.3: the leadership %d: %+v", try+1, x.p)
		}
		w.settle()
	}
	if v := w.view(0); v.Leader != 0 || v.State != api.Leading || !v.Serves {
		t.Errorf("P24.8: %+v", v)
	}
}
