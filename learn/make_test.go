package learn_test

import (
	"bytes"
	"slices"
	"strconv"
	"testing"

	"lagoon/api"
	"lagoon/learn"
	"lagoon/packet"
	"lagoon/snap"
	"lagoon/txn"
	"lagoon/ztree"
)

func z(epoch, n uint32) api.Zxid { return api.Zxid{Epoch: epoch, N: n} }

func above(a, b api.Zxid) bool { return a.Epoch > b.Epoch || a.Epoch == b.Epoch && a.N > b.N }

// at is a transaction that has a zxid, and a list in it; no two of them are the same.
func at(x api.Zxid) api.Txn {
	return api.Txn{
		Zxid: x,
		From: api.Origin{Server: 3, Boot: x.Epoch, Number: int64(x.N)},
		Req:  api.Request{Kind: api.Create, Path: "/" + strconv.Itoa(int(x.Epoch)) + "-" + strconv.Itoa(int(x.N)), Data: []byte{byte(x.Epoch), byte(x.N)}},
	}
}

// rich is a transaction with something in each list that one may have.
func rich(x api.Zxid) api.Txn {
	world := api.Id{Scheme: "world", Name: "anyone"}
	return api.Txn{
		Zxid: x,
		From: api.Origin{Server: 6, Boot: 9, Number: 1<<63 - 1},
		Req: api.Request{
			Kind: api.Multi, Session: 7,
			Who: []api.Id{{Scheme: "name", Name: "ann"}, {Scheme: "ip", Name: "10.1.2.3"}},
			Ops: []api.Request{
				{Kind: api.Create, Path: "/op", Data: []byte{1, 2, byte(x.N)}, Acl: []api.Entry{{Perms: 31, Who: world}, {Perms: 1, Who: world}}},
				{Kind: api.SetAcl, Path: "/b", Version: 5, Acl: []api.Entry{{Perms: -128}}},
				{Kind: api.SetData, Path: "/b", Data: []byte{7}},
			},
		},
	}
}

// logOf are transactions of these zxids, rich ones among them.
func logOf(l ...api.Zxid) []api.Txn {
	var out []api.Txn
	for i, x := range l {
		if i%2 == 0 {
			out = append(out, at(x))
		} else {
			out = append(out, rich(x))
		}
	}
	return out
}

// treeOf is what transactions make of the empty tree, and imageAt the bytes of one whose Last is a zxid.
func treeOf(l []api.Txn) *ztree.Tree {
	tree := ztree.New()
	for _, x := range l {
		tree.Apply(x)
	}
	return tree
}

func imageAt(x api.Zxid) []byte {
	if x == (api.Zxid{}) {
		return snap.Write(ztree.New())
	}
	return snap.Write(treeOf([]api.Txn{at(x)}))
}

// put gives a packet numbers and a place that may be.
func put(p api.Packet) api.Packet {
	p.Conn, p.Lead, p.Place = api.Conn{Boot: 3, Try: 1}, api.Conn{Boot: 1, Try: 2}, 5
	return p
}

func trunc(x api.Zxid) api.Packet { return put(api.Packet{Kind: api.PTrunc, Zxid: x}) }

func diff(prev api.Zxid, t api.Txn) api.Packet {
	return put(api.Packet{Kind: api.PDiff, Prev: prev, Txn: t})
}

func piece(b []byte) api.Packet { return put(api.Packet{Kind: api.PChunk, Bytes: b}) }

func final(b []byte) api.Packet { return put(api.Packet{Kind: api.PChunk, Bytes: b, Final: true}) }

func newLeader(epoch uint32, x api.Zxid) api.Packet {
	return put(api.Packet{Kind: api.PNewLeader, Epoch: epoch, Zxid: x})
}

// told is what the chapter's words say of a Learner: of which follower it is, and what it has taken, in order.
type told struct {
	epoch uint32
	snap  api.Zxid
	log   []api.Txn
	took  []api.Packet
}

func (w *told) has(kind int8) bool {
	return slices.ContainsFunc(w.took, func(p api.Packet) bool { return p.Kind == kind })
}

func (w *told) done() bool { return w.has(api.PNewLeader) }

// ended tells whether there were no Chunks, or a final one.
func (w *told) ended() bool {
	return !w.has(api.PChunk) || slices.ContainsFunc(w.took, func(p api.Packet) bool { return p.Final })
}

func (w *told) stands(x api.Zxid) bool {
	return x == w.snap || slices.ContainsFunc(w.log, func(t api.Txn) bool { return t.Zxid == x })
}

// own is the follower's last.
func (w *told) own() api.Zxid {
	if n := len(w.log); n > 0 {
		return w.log[n-1].Zxid
	}
	return w.snap
}

// bytes are those of all Chunks, one behind the other.
func (w *told) bytes() []byte {
	var out []byte
	for _, p := range w.took {
		out = append(out, p.Bytes...)
	}
	return out
}

func (w *told) last() api.Zxid {
	out := w.own()
	for _, p := range w.took {
		switch {
		case p.Kind == api.PTrunc:
			out = p.Zxid
		case p.Kind == api.PDiff:
			out = p.Txn.Zxid
		case p.Final:
			tree, _ := snap.Read(w.bytes())
			out = tree.Last()
		}
	}
	return out
}

// fits is the chapter's table.
func (w *told) fits(p api.Packet) bool {
	if w.done() || packet.Check(p) != api.OK {
		return false
	}
	switch p.Kind {
	case api.PTrunc:
		return len(w.took) == 0 && w.stands(p.Zxid)
	case api.PChunk:
		if w.has(api.PTrunc) || w.has(api.PDiff) || w.has(api.PChunk) && w.ended() {
			return false
		}
		_, e := snap.Read(slices.Concat(w.bytes(), p.Bytes))
		return !p.Final || e == api.OK
	case api.PDiff:
		return w.ended() && p.Prev == w.last() && above(p.Txn.Zxid, w.last()) && p.Txn.Zxid.Epoch <= w.epoch
	case api.PNewLeader:
		return w.ended() && p.Epoch == w.epoch && p.Zxid == w.last()
	default:
		return false
	}
}

func (w *told) brought() (api.Brought, bool) {
	if !w.done() {
		return api.Brought{}, false
	}
	b := api.Brought{Epoch: w.epoch, Cut: w.own()}
	for _, p := range w.took {
		switch p.Kind {
		case api.PTrunc:
			b.Cut = p.Zxid
		case api.PChunk:
			b.Whole, b.Image, b.Cut = true, w.bytes(), api.Zxid{}
		case api.PDiff:
			b.Txns = append(b.Txns, p.Txn)
		}
	}
	return b, true
}

// sameBrought tells whether two are the same, all fields of them (R4).
func sameBrought(a, b api.Brought) bool {
	return a.Epoch == b.Epoch && a.Whole == b.Whole && bytes.Equal(a.Image, b.Image) && a.Cut == b.Cut && slices.EqualFunc(a.Txns, b.Txns, txn.Same)
}

// pupil is a Learner, and what the chapter says of it.
type pupil struct {
	told
	*learn.Learner
}

func begun(t *testing.T, epoch uint32, snap api.Zxid, log []api.Txn) *pupil {
	t.Helper()
	l, e := learn.New(epoch, snap, log)
	if e != api.OK || l == nil {
		t.Fatalf("P17.1: New(%d, %v, %d transactions): %v, %d", epoch, snap, len(log), l, e)
	}
	u := &pupil{told{epoch: epoch, snap: snap, log: log}, l}
	u.looks(t, "behind New")
	return u
}

// looks holds what the Learner tells against the words.
func (u *pupil) looks(t *testing.T, what string) {
	t.Helper()
	if x := u.Last(); x != u.last() {
		t.Fatalf("P17.3: %s: the last is %v, not %v", what, x, u.last())
	}
	want, whether := u.brought()
	for range 2 { // asked again it tells the same
		if b, is := u.Brought(); is != whether || !sameBrought(b, want) {
			t.Fatalf("P17.4: %s: brought is %+v, %v, not %+v, %v", what, b, is, want, whether)
		}
	}
}

// takes gives it a packet, and holds what it answers, and what it tells behind that, against the words. It tells whether the packet fitted.
func (u *pupil) takes(t *testing.T, what string, p api.Packet) bool {
	t.Helper()
	fits := u.fits(p)
	var want api.Errno = api.ErrLearn
	if fits {
		want = api.OK
		u.took = append(u.took, p)
	}
	done, e := u.Take(p)
	if e != want || done != (fits && p.Kind == api.PNewLeader) {
		t.Fatalf("P17.2: %s: Take of kind %d behind %d others: %v, %d, not %d", what, p.Kind, len(u.took), done, e, want)
	}
	u.looks(t, what)
	return fits
}

// fit gives it packets that fit, and misfit one that does not.
func (u *pupil) fit(t *testing.T, what string, l ...api.Packet) *pupil {
	t.Helper()
	for i, p := range l {
		if !u.takes(t, what, p) {
			t.Fatalf("P17.2: %s: packet %d, of kind %d, does not fit", what, i, p.Kind)
		}
	}
	return u
}

func (u *pupil) misfit(t *testing.T, what string, l ...api.Packet) *pupil {
	t.Helper()
	for i, p := range l {
		if u.takes(t, what, p) {
			t.Fatalf("P17.2: %s: packet %d, of kind %d, fits", what, i, p.Kind)
		}
	}
	return u
}
