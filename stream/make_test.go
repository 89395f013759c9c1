package stream_test

import (
	"bytes"
	"reflect"
	"slices"
	"testing"

	"lagoon/api"
	"lagoon/packet"
	"lagoon/stream"
	"lagoon/txn"
)

func z(epoch, n uint32) api.Zxid { return api.Zxid{Epoch: epoch, N: n} }

// counting is so many bytes, of which no two near one another are the same.
func counting(n int) []byte {
	b := make([]byte, n)
	for i := range b {
		b[i] = byte(1 + i + i>>8)
	}
	return b
}

// at is a transaction that has a zxid, and a list in it; no two of them are the same.
func at(x api.Zxid) api.Txn {
	return api.Txn{
		Zxid: x,
		From: api.Origin{Server: 3, Boot: x.Epoch, Number: int64(x.N)},
		Req:  api.Request{Kind: api.SetData, Path: "/a", Data: []byte{byte(x.Epoch), byte(x.N)}, Version: -1},
	}
}

// rich is a transaction with something in each list that one may have.
func rich(x api.Zxid) api.Txn {
	world := api.Id{Scheme: "world", Name: "anyone"}
	return api.Txn{
		Zxid: x,
		From: api.Origin{Server: 6, Boot: 9, Number: 1<<63 - 1},
		Req: api.Request{
			Kind: api.Multi, Session: 7,
			Who: []api.Id{{Scheme: "name", Name: "ann"}, {Scheme: "ip", Name: "10.1.2.3"}},
			Ops: []api.Request{
				{Kind: api.Create, Path: "/op", Data: []byte{1, 2, byte(x.N)}, Acl: []api.Entry{{Perms: 31, Who: world}, {Perms: 1, Who: world}}},
				{Kind: api.SetAcl, Path: "/b", Version: 5, Acl: []api.Entry{{Perms: -128}}},
				{Kind: api.SetData, Path: "/b", Data: []byte{7}},
			},
		},
	}
}

// logOf are transactions of these zxids, rich ones among them.
func logOf(l ...api.Zxid) []api.Txn {
	var out []api.Txn
	for i, x := range l {
		if i%2 == 0 {
			out = append(out, at(x))
		} else {
			out = append(out, rich(x))
		}
	}
	return out
}

func trunc(x api.Zxid) api.Packet { return api.Packet{Kind: api.PTrunc, Zxid: x} }

func diff(prev api.Zxid, t api.Txn) api.Packet {
	return api.Packet{Kind: api.PDiff, Prev: prev, Txn: t}
}

func piece(b ...byte) api.Packet { return api.Packet{Kind: api.PChunk, Bytes: b} }

func final(b ...byte) api.Packet { return api.Packet{Kind: api.PChunk, Bytes: b, Final: true} }

func newLeader(epoch uint32, x api.Zxid) api.Packet {
	return api.Packet{Kind: api.PNewLeader, Epoch: epoch, Zxid: x}
}

// same tells whether two packets are the same, all fields of them (R4).
func same(a, b api.Packet) bool {
	alike := txn.Same(a.Txn, b.Txn) && bytes.Equal(a.Bytes, b.Bytes)
	a.Txn, a.Bytes, b.Txn, b.Bytes = api.Txn{}, nil, api.Txn{}, nil
	return alike && reflect.DeepEqual(a, b)
}

// question is what Make is asked.
type question struct {
	c     api.Choice
	image []byte
	l     []api.Txn
	epoch uint32
	chunk int
}

func (q question) make() ([]api.Packet, api.Errno) {
	return stream.Make(q.c, q.image, q.l, q.epoch, q.chunk)
}

// gives looks at one answer, packet by packet.
func (q question) gives(t *testing.T, what string, want ...api.Packet) []api.Packet {
	t.Helper()
	got, e := q.make()
	if e != api.OK || !slices.EqualFunc(got, want, same) {
		t.Fatalf("P16.1: %s: Make(%v, %d bytes, %d transactions, %d, %d): %d, %+v, not %+v", what, q.c, len(q.image), len(q.l), q.epoch, q.chunk, e, got, want)
	}
	return got
}

// refused looks that there is no answer.
func (q question) refused(t *testing.T, what string) {
	t.Helper()
	if got, e := q.make(); e != api.ErrArg || len(got) != 0 {
		t.Fatalf("P16.1: %s: Make(%v, %d bytes, %d transactions, %d, %d): %d, %+v, not refused", what, q.c, len(q.image), len(q.l), q.epoch, q.chunk, e, got)
	}
}

// answered looks that Make says what the document's words say.
func (q question) answered(t *testing.T, what string) {
	t.Helper()
	if q.mayBe() {
		q.gives(t, what, q.packets()...)
	} else {
		q.refused(t, what)
	}
}

// isZxid and above are chapter 4's words.
func isZxid(x api.Zxid) bool {
	return x.Epoch == 0 && x.N == 0 || x.Epoch > 0 && x.Epoch < 1<<31 && x.N > 0
}

func above(a, b api.Zxid) bool { return a.Epoch > b.Epoch || a.Epoch == b.Epoch && a.N > b.N }

// mayBe is what the document says of what is refused, one sentence behind the other.
func (q question) mayBe() bool {
	if q.c.Way < 1 || q.c.Way > 4 {
		return false
	}
	if q.epoch == 0 || q.epoch >= 1<<31 || q.chunk < 1 || q.chunk > 4096 {
		return false
	}
	if (len(q.image) > 0) != (q.c.Way == 4) {
		return false
	}
	if !isZxid(q.c.From) || q.c.From.Epoch > q.epoch {
		return false
	}
	ahead := q.c.From
	for _, x := range q.l {
		if txn.Check(x) != api.OK || x.Zxid.Epoch > q.epoch || !above(x.Zxid, ahead) {
			return false
		}
		ahead = x.Zxid
	}
	return !(q.c.Way == 2 && len(q.l) > 0) && !(q.c.Way == 3 && len(q.l) == 0)
}

// packets is what the document says of the answer, where nothing is refused.
func (q question) packets() []api.Packet {
	var out []api.Packet
	if q.c.Way == 2 || q.c.Way == 3 {
		out = append(out, trunc(q.c.From))
	}
	for i := 0; i < len(q.image); i += q.chunk {
		out = append(out, piece(q.image[i:min(i+q.chunk, len(q.image))]...))
	}
	if len(q.image) > 0 {
		out[len(out)-1].Final = true
	}
	ahead := q.c.From
	for _, x := range q.l {
		out = append(out, diff(ahead, x))
		ahead = x.Zxid
	}
	return append(out, newLeader(q.epoch, ahead))
}

// laid are a leader's packets on their way: with numbers, and places from 0 on.
func laid(l []api.Packet) []api.Packet {
	out := slices.Clone(l)
	for i := range out {
		out[i].Conn, out[i].Lead, out[i].Place = api.Conn{Boot: 3, Try: 1}, api.Conn{Boot: 1, Try: 2}, int64(i)
	}
	return out
}

// passes looks that layer 15 lets packets pass, and that they come out as they went in.
func passes(t *testing.T, l []api.Packet) {
	t.Helper()
	for _, p := range laid(l) {
		b, e := packet.Write(p)
		q, f := packet.Read(b)
		if packet.Check(p) != api.OK || e != api.OK || f != api.OK || !same(p, q) {
			t.Fatalf("P16.1: layer 15 does not let pass %+v: %d, %d, %d", p, packet.Check(p), e, f)
		}
	}
}
