package peer_test

import (
	"bytes"
	"fmt"
	"slices"
	"testing"

	"lagoon/api"
	"lagoon/disk"
	"lagoon/packet"
	"lagoon/path"
	"lagoon/peer"
	"lagoon/txn"
	"lagoon/ztree"
)

func z(epoch, n uint32) api.Zxid { return api.Zxid{Epoch: epoch, N: n} }

func isPath(p string) bool {
	_, e := path.Check(p)
	return e == api.OK
}

// config is one of servers of these weights, all of one group.
func config(weights ...int) api.Config {
	return api.Config{Weights: weights, Groups: make([]int, len(weights)), Cache: 4, Factor: 0.5, Chunk: 64, Segment: 4, LastEpoch: 99, LastCounter: 99}
}

func create(p string) api.Request { return api.Request{Kind: api.Create, Path: p} }

func set(p, data string) api.Request {
	return api.Request{Kind: api.SetData, Path: p, Data: []byte(data), Version: -1}
}

func get(p string) api.Request { return api.Request{Kind: api.GetData, Path: p} }

// rich is a request with all lists that a request can have.
func rich(p string) api.Request {
	who := []api.Id{{Scheme: "name", Name: "ann"}, {Scheme: "ip", Name: "1.2.3.4"}}
	acl := []api.Entry{{Perms: api.PermAll, Who: api.Id{Scheme: "world", Name: "anyone"}}, {Perms: 1, Who: who[0]}}
	return api.Request{Kind: api.Multi, Who: who, Ops: []api.Request{
		{Kind: api.Create, Path: p, Data: []byte("abc"), Acl: acl},
		{Kind: api.SetData, Path: p, Data: []byte("de"), Version: -1},
	}}
}

func cloneRequest(r api.Request) api.Request { return txn.Clone(api.Txn{Req: r}).Req }

func cloneResult(r api.Result) api.Result {
	r.Data, r.Acl, r.Names, r.Results = slices.Clone(r.Data), slices.Clone(r.Acl), slices.Clone(r.Names), slices.Clone(r.Results)
	for i := range r.Results {
		r.Results[i] = cloneResult(r.Results[i])
	}
	return r
}

func sameResult(a, b api.Result) bool {
	return a.Err == b.Err && a.Path == b.Path && bytes.Equal(a.Data, b.Data) && slices.Equal(a.Acl, b.Acl) && a.Stat == b.Stat &&
		slices.Equal(a.Names, b.Names) && a.Session == b.Session && slices.EqualFunc(a.Results, b.Results, sameResult)
}

func sameLog(a, b []api.Txn) bool { return slices.EqualFunc(a, b, txn.Same) }

func sameFact(a, b api.Fact) bool {
	return a.Kind == b.Kind && a.Server == b.Server && a.Other == b.Other && a.Epoch == b.Epoch && a.Zxid == b.Zxid && a.Way == b.Way &&
		a.Number == b.Number && txn.Same(a.Txn, b.Txn) && sameResult(a.Result, b.Result) && a.Fired == b.Fired && a.Session == b.Session &&
		a.Snap == b.Snap && sameLog(a.Log, b.Log)
}

func sameSend(a, b api.Send) bool { return a.To == b.To && bytes.Equal(a.Bytes, b.Bytes) }

func sameOutput(a, b api.Output) bool {
	return slices.EqualFunc(a.Facts, b.Facts, sameFact) && slices.EqualFunc(a.Sends, b.Sends, sameSend)
}

func sameView(a, b api.View) bool {
	return a.State == b.State && a.Leader == b.Leader && a.Durable == b.Durable && sameLog(a.Log, b.Log) && a.Committed == b.Committed &&
		a.Delivered == b.Delivered && a.Serves == b.Serves && a.Digest == b.Digest
}

func sameFile(a, b api.File) bool {
	return a.Name == b.Name && a.Synced == b.Synced && bytes.Equal(a.Bytes, b.Bytes)
}

func cloneOutput(o api.Output) api.Output {
	var out api.Output
	for _, f := range o.Facts {
		f.Txn, f.Result, f.Log = txn.Clone(f.Txn), cloneResult(f.Result), slices.Clone(f.Log)
		for i := range f.Log {
			f.Log[i] = txn.Clone(f.Log[i])
		}
		out.Facts = append(out.Facts, f)
	}
	for _, s := range o.Sends {
		out.Sends = append(out.Sends, api.Send{To: s.To, Bytes: slices.Clone(s.Bytes)})
	}
	return out
}

// pair is a server, and beside it the model of the chapter's words, each on a disk of its own.
type pair struct {
	c    api.Config
	me   int8
	d    *disk.Disk
	s    *peer.Server
	twin *disk.Disk
	m    *model
}

// message is under way.
type message struct {
	from, to int8
	bytes    []byte
}

// world is a cluster: what one does, tells and sends is held against the model each time.
type world struct {
	t     testing.TB
	c     api.Config
	all   []*pair
	net   []message
	told  func(n int8, o api.Output, e api.Errno) // what is to be looked at beside it
	steps int
	halt  bool // nothing happens any more
}

func newWorld(t testing.TB, c api.Config, room int) *world {
	w := &world{t: t, c: c}
	for n := range c.Weights {
		d, _ := disk.New(room)
		twin, _ := disk.New(room)
		w.all = append(w.all, &pair{c: c, me: int8(n), d: d, twin: twin})
	}
	return w
}

// begun is one whose servers were all started.
func begun(t testing.TB, c api.Config) *world {
	t.Helper()
	w := newWorld(t, c, 100000)
	for n := range w.all {
		w.starts(int8(n))
	}
	return w
}

// led is one whose server 0 leads, and these follow; all that is sent has arrived.
func led(t testing.TB, c api.Config, followers ...int8) *world {
	t.Helper()
	w := begun(t, c)
	w.follow(0, 0)
	for _, n := range followers {
		w.follow(n, 0)
	}
	w.settle()
	return w
}

func (w *world) on() bool { return !w.t.Failed() }

// starts starts a server, behind a loss of power too; of its files' unsynced ends so many bytes stay.
func (w *world) starts(n int8, keep ...int) (api.Output, api.Errno) {
	w.t.Helper()
	p := w.all[n]
	p.d.Start(keep...)
	p.twin.Start(keep...)
	o, e := p.starts(w.t)
	if w.told != nil {
		w.told(n, o, e)
	}
	return o, e
}

func (p *pair) starts(t testing.TB) (api.Output, api.Errno) {
	t.Helper()
	c := p.c
	c.Weights, c.Groups = slices.Clone(c.Weights), slices.Clone(c.Groups)
	s, o, e := peer.Start(c, p.me, p.d)
	clear(c.Weights)
	clear(c.Groups)
	m, mo, me := startModel(p.c, p.me, p.twin)
	if e != me || !sameOutput(o, mo) || (s == nil) != (m == nil) {
		t.Fatalf("P24.2: server %d: Start tells %+v, %d, not %+v, %d", p.me, o, e, mo, me)
	}
	p.s, p.m = s, m
	p.agrees(t, "P24.2: Start")
	return o, e
}

// agrees looks at all that can be seen of a server.
func (p *pair) agrees(t testing.TB, what string) {
	t.Helper()
	if !slices.EqualFunc(p.d.Image(), p.twin.Image(), sameFile) || p.d.Writes() != p.twin.Writes() || p.d.On() != p.twin.On() {
		t.Fatalf("%s: server %d: its disk has %v behind %d writes, not %v behind %d", what, p.me, p.d.Image(), p.d.Writes(), p.twin.Image(), p.twin.Writes())
	}
	if p.m == nil {
		return
	}
	if v, mv := p.s.View(), p.m.View(); !sameView(v, mv) {
		t.Fatalf("P24.8: %s: server %d: View is %+v, not %+v", what, p.me, v, mv)
	}
	up, tree := p.s.Up(), p.s.Tree()
	if up != p.m.Up() || up != (tree != nil) || up && !ztree.Same(tree, p.m.tree) {
		t.Fatalf("P24.8: %s: server %d: Up is %v, its tree %v", what, p.me, up, tree)
	}
}

// step does an input, and holds it against the model. What was handed in is written over behind the call, and so is what was answered, in both of which nobody has a share.
func (p *pair) step(t testing.TB, in api.Input) (api.Output, api.Errno) {
	t.Helper()
	own := in
	own.Bytes, own.Req = slices.Clone(in.Bytes), cloneRequest(in.Req)
	o, e := p.s.Do(own)
	mo, me := p.m.Do(in)
	if e != me || !sameOutput(o, mo) {
		t.Fatalf("P24: server %d: Do(%s) tells\n%s, %d, not\n%s, %d", p.me, inputText(in), outputText(o), e, outputText(mo), me)
	}
	for i := range o.Facts {
		if o.Facts[i].Server != p.me {
			t.Fatalf("P24: a fact of server %d: %+v", p.me, o.Facts[i])
		}
	}
	p.agrees(t, "Do("+inputText(in)+")")
	out := cloneOutput(o)
	spoilInput(own)
	if !sameOutput(o, out) {
		t.Fatalf("R5: server %d: what Do(%s) tells shares memory with it", p.me, inputText(in))
	}
	spoilOutput(o)
	p.agrees(t, "R5: behind writing over what was handed in and answered")
	return out, e
}

func inputText(in api.Input) string {
	text := fmt.Sprintf("%+v", in)
	if p, e := packet.Read(in.Bytes); e == api.OK {
		text = fmt.Sprintf("packet from %d: %+v", in.Other, p)
	}
	return text
}

func outputText(o api.Output) string {
	text := fmt.Sprintf("%d facts, %d sends", len(o.Facts), len(o.Sends))
	for _, f := range o.Facts {
		text += fmt.Sprintf("\n  %+v", f)
	}
	for _, s := range o.Sends {
		p, _ := packet.Read(s.Bytes)
		text += fmt.Sprintf("\n  to %d: %+v", s.To, p)
	}
	return text
}

func (w *world) do(n int8, in api.Input) (api.Output, api.Errno) {
	w.t.Helper()
	if w.halt {
		return api.Output{}, api.ErrDown
	}
	o, e := w.all[n].step(w.t, in)
	w.steps++
	for _, s := range o.Sends {
		w.net = append(w.net, message{from: n, to: s.To, bytes: s.Bytes})
	}
	if w.told != nil {
		w.told(n, o, e)
	}
	return o, e
}

// does is a step that is not refused, and tells just these kinds of facts.
func (w *world) does(n int8, in api.Input, kinds ...int8) api.Output {
	w.t.Helper()
	o, e := w.do(n, in)
	if e != api.OK || !slices.Equal(kindsOf(o.Facts), kinds) {
		w.t.Fatalf("P24: server %d: Do(%s) tells %v, %d, not %v", n, inputText(in), kindsOf(o.Facts), e, kinds)
	}
	return o
}

func (w *world) refuses(n int8, in api.Input, want api.Errno) {
	w.t.Helper()
	if o, e := w.do(n, in); e != want || len(o.Facts)+len(o.Sends) > 0 {
		w.t.Fatalf("P24: server %d: Do(%s) = %+v, %d, not %d", n, inputText(in), o, e, want)
	}
}

func kindsOf(l []api.Fact) []int8 {
	var out []int8
	for _, f := range l {
		out = append(out, f.Kind)
	}
	return out
}

func (w *world) follow(n, whom int8) (api.Output, api.Errno) {
	w.t.Helper()
	return w.do(n, api.Input{Kind: api.InFollow, Other: whom})
}

func (w *world) write(n int8, r api.Request) (api.Output, api.Errno) {
	w.t.Helper()
	return w.do(n, api.Input{Kind: api.InWrite, Req: r})
}

func (w *world) tick(n int8) api.Output {
	w.t.Helper()
	o, _ := w.do(n, api.Input{Kind: api.InTick})
	return o
}

func (w *world) snap(n int8) (api.Output, api.Errno) {
	w.t.Helper()
	return w.do(n, api.Input{Kind: api.InSnap})
}

func (w *world) gives(n int8) (api.Output, api.Errno) {
	w.t.Helper()
	return w.do(n, api.Input{Kind: api.InGiveUp})
}

// off takes a server's power away.
func (w *world) off(n int8) {
	w.all[n].d.Off()
	w.all[n].twin.Off()
}

func (w *world) arm(n int8, writes int) {
	w.all[n].d.Arm(writes)
	w.all[n].twin.Arm(writes)
}

// take lets the message at a place arrive.
func (w *world) take(i int) (api.Output, api.Errno) {
	w.t.Helper()
	x := w.net[i]
	w.net = slices.Delete(w.net, i, i+1)
	return w.hears(x.to, x.from, x.bytes)
}

// hears lets bytes arrive.
func (w *world) hears(to, from int8, b []byte) (api.Output, api.Errno) {
	w.t.Helper()
	if w.all[to].s == nil {
		return api.Output{}, api.ErrDown
	}
	return w.do(to, api.Input{Kind: api.InPacket, Other: from, Bytes: b})
}

// settle lets all arrive, in order.
func (w *world) settle() {
	w.t.Helper()
	for len(w.net) > 0 && !w.halt {
		w.take(0)
	}
}

// until lets messages arrive, in order, till the first one under way is of this kind.
func (w *world) until(kind int8) packetTo {
	w.t.Helper()
	for len(w.net) > 0 {
		if p, _ := packet.Read(w.net[0].bytes); p.Kind == kind {
			return packetTo{from: w.net[0].from, to: w.net[0].to, p: p}
		}
		w.take(0)
	}
	w.t.Fatalf("no packet of kind %d came under way", kind)
	return packetTo{}
}

// packetTo is a packet on its way.
type packetTo struct {
	from, to int8
	p        api.Packet
}

// bytesOf are a packet's bytes.
func bytesOf(t testing.TB, p api.Packet) []byte {
	t.Helper()
	b, e := packet.Write(p)
	if e != api.OK {
		t.Fatalf("packet.Write(%+v) = %d", p, e)
	}
	return b
}

// tells lets a packet arrive.
func (w *world) tells(x packetTo) (api.Output, api.Errno) {
	w.t.Helper()
	return w.hears(x.to, x.from, bytesOf(w.t, x.p))
}

// fills leaves so many bytes on a server's disk.
func (w *world) fills(n int8, left int) {
	for _, d := range []*disk.Disk{w.all[n].d, w.all[n].twin} {
		d.Remove("full")
		if e := d.Append("full", make([]byte, 100000-d.Used()-left)); e != api.OK {
			w.t.Fatal(e)
		}
	}
}

// view is a server's.
func (w *world) view(n int8) api.View { return w.all[n].s.View() }

// ask is an Ask, held against the model.
func (w *world) ask(n int8, r api.Request, x api.Watch) (api.Result, api.Errno) {
	w.t.Helper()
	p := w.all[n]
	own := cloneRequest(r)
	got, e := p.s.Ask(own, x)
	want, we := p.m.Ask(r, x)
	if e != we || !sameResult(got, want) {
		w.t.Fatalf("P24.7: server %d: Ask(%+v, %+v) = %+v, %d, not %+v, %d", n, r, x, got, e, want, we)
	}
	out := cloneResult(got)
	spoilRequest(own)
	spoilResult(got)
	p.agrees(w.t, "P24.7: behind Ask")
	return out, e
}

// packets are those that were sent.
func packets(t testing.TB, o api.Output) []packetTo {
	t.Helper()
	var out []packetTo
	for _, s := range o.Sends {
		p, e := packet.Read(s.Bytes)
		if e != api.OK {
			t.Fatalf("what was sent is no packet: %v", s)
		}
		out = append(out, packetTo{to: s.To, p: p})
	}
	return out
}

// full is all of a list, its spare room too.
func full[T any](l []T) []T { return l[:cap(l)] }

func spoilRequest(r api.Request) {
	spoilBytes(r.Data)
	clear(full(r.Acl))
	clear(full(r.Who))
	for _, x := range r.Ops {
		spoilRequest(x)
	}
	clear(full(r.Ops))
}

func spoilBytes(b []byte) {
	for i := range full(b) {
		full(b)[i] ^= 0xff
	}
}

func spoilInput(in api.Input) {
	spoilBytes(in.Bytes)
	spoilRequest(in.Req)
}

func spoilResult(r api.Result) {
	spoilBytes(r.Data)
	clear(full(r.Acl))
	clear(full(r.Names))
	for _, x := range r.Results {
		spoilResult(x)
	}
	clear(full(r.Results))
}

func spoilOutput(o api.Output) {
	for _, f := range o.Facts {
		spoilRequest(f.Txn.Req)
		spoilResult(f.Result)
		for _, x := range f.Log {
			spoilRequest(x.Req)
		}
		clear(full(f.Log))
	}
	for _, s := range o.Sends {
		spoilBytes(s.Bytes)
	}
	clear(full(o.Facts))
	clear(full(o.Sends))
}
