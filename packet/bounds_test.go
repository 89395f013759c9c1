package packet_test

import (
	"bytes"
	"math"
	"strconv"
	"testing"

	"lagoon/api"
)

// bounds looks at a field of every kind that names it, with each of these values in it: whether that may be is told by kind.
func bounds[T any](t *testing.T, field string, at func(p *api.Packet) *T, may func(kind int8, v T) bool, values ...T) {
	t.Helper()
	for kind := int8(1); kind <= lastKind; kind++ {
		if !names(kind, field) {
			continue
		}
		for i, v := range values {
			for _, p := range []api.Packet{some(kind), least(kind), most(kind)} {
				*at(&p) = v
				checks(t, field+" (value "+strconv.Itoa(i)+") of kind "+text(kind), p, may(kind, v))
			}
		}
	}
}

// TestConns: starts and tries are counted from 1 on, each of both.
func TestConns(t *testing.T) {
	from1 := func(_ int8, n uint32) bool { return n != 0 }
	ends := []uint32{0, 1, 2, 1<<31 - 1, 1 << 31, math.MaxUint32}
	bounds(t, "Conn", func(p *api.Packet) *uint32 { return &p.Conn.Boot }, from1, ends...)
	bounds(t, "Conn", func(p *api.Packet) *uint32 { return &p.Conn.Try }, from1, ends...)
	bounds(t, "Lead", func(p *api.Packet) *uint32 { return &p.Lead.Boot }, from1, ends...)
	bounds(t, "Lead", func(p *api.Packet) *uint32 { return &p.Lead.Try }, from1, ends...)
}

func TestPlaces(t *testing.T) {
	from0 := func(_ int8, n int64) bool { return n >= 0 }
	bounds(t, "Place", func(p *api.Packet) *int64 { return &p.Place }, from0, -1, 0, 1, 1<<32, math.MinInt64, math.MaxInt64, math.MinInt32)
}

func TestSessions(t *testing.T) {
	from1 := func(_ int8, n int64) bool { return n > 0 }
	bounds(t, "Session", func(p *api.Packet) *int64 { return &p.Session }, from1, -1, 0, 1, 1<<32, math.MinInt64, math.MaxInt64, math.MinInt32)
}

// TestEpochs: an Info's may be 0, no other one's.
func TestEpochs(t *testing.T) {
	ends := []uint32{0, 1, 2, 2147483647, 2147483648, math.MaxUint32}
	epoch := func(kind int8, n uint32) bool { return n <= 2147483647 && (n != 0 || kind == api.PInfo) }
	current := func(_ int8, n uint32) bool { return n <= 2147483647 }
	bounds(t, "Epoch", func(p *api.Packet) *uint32 { return &p.Epoch }, epoch, ends...)
	bounds(t, "Current", func(p *api.Packet) *uint32 { return &p.Current }, current, ends...)
}

// TestCurrentAboveEpoch: the chapter bounds each alone.
func TestCurrentAboveEpoch(t *testing.T) {
	p := least(api.PAckEpoch)
	p.Epoch, p.Current, p.Zxid = 1, 2, z(3, 1)
	checks(t, "an AckEpoch whose current epoch is above its epoch", p, true)
	p = least(api.PNewLeader)
	p.Epoch, p.Zxid = 1, z(2, 1)
	checks(t, "a NewLeader whose zxid is above its epoch", p, true)
}

// TestZxids: zero may be but where a single transaction is meant.
func TestZxids(t *testing.T) {
	ends := []api.Zxid{
		{}, z(0, 1), z(1, 0), z(1, 1), z(1, 2), z(0, math.MaxUint32), z(1, math.MaxUint32),
		z(2147483647, 0), z(2147483647, 1), z(2147483647, math.MaxUint32), z(2147483648, 0), z(2147483648, 1), z(math.MaxUint32, math.MaxUint32),
	}
	may := func(kind int8, x api.Zxid) bool {
		if x == (api.Zxid{}) {
			return kind != api.PAck && kind != api.PCommit
		}
		return x.Epoch >= 1 && x.Epoch <= 2147483647 && x.N >= 1
	}
	bounds(t, "Zxid", func(p *api.Packet) *api.Zxid { return &p.Zxid }, may, ends...)
	for _, kind := range []int8{api.PDiff, api.PPropose} {
		for _, x := range ends {
			p := least(kind)
			p.Prev, p.Txn.Zxid = x, z(2147483647, math.MaxUint32)
			checks(t, "a Prev of kind "+text(kind), p, may(kind, x) && x != p.Txn.Zxid)
		}
	}
}

// TestTxnBehindPrev: what a Diff or a Propose has stands above what is ahead of it: by epoch, then by counter.
func TestTxnBehindPrev(t *testing.T) {
	for _, c := range []struct {
		prev, at api.Zxid
		may      bool
	}{
		{z(0, 0), z(0, 0), false}, {z(0, 0), z(1, 1), true}, {z(0, 0), z(1, 9), true},
		{z(1, 1), z(0, 0), false}, {z(1, 1), z(1, 1), false}, {z(1, 1), z(1, 2), true}, {z(1, 1), z(1, 3), true},
		{z(1, 2), z(1, 1), false}, {z(1, 9), z(2, 1), true}, {z(2, 1), z(1, 9), false}, {z(2, 1), z(2, 1), false},
		{z(1, math.MaxUint32), z(1, 1), false}, {z(1, math.MaxUint32), z(2, 1), true}, {z(1, 1), z(1, math.MaxUint32), true},
		{z(2147483647, 1), z(1, 2), false}, {z(1, 2), z(2147483647, 1), true},
		{z(1, 1), z(1, 0), false}, {z(1, 1), z(0, 2), false}, {z(1, 1), z(2147483648, 1), false}, {z(1, 0), z(1, 1), false}, {z(0, 1), z(1, 1), false},
	} {
		for _, kind := range []int8{api.PDiff, api.PPropose} {
			p := some(kind)
			p.Prev, p.Txn.Zxid = c.prev, c.at
			checks(t, "a transaction behind another in kind "+text(kind), p, c.may)
		}
	}
}

// TestTxnForwarded: it has no zxid, and its number is from 1 on; elsewhere 0 is a number too.
func TestTxnForwarded(t *testing.T) {
	for _, at := range []api.Zxid{{}, z(1, 1), z(2, 3), z(0, 1), z(1, 0), z(2147483647, math.MaxUint32), z(2147483648, 1)} {
		p := some(api.PForward)
		p.Txn.Zxid = at
		checks(t, "a Forward with a zxid", p, at == api.Zxid{})
	}
	for _, n := range []int64{0, 1, 2, -1, math.MaxInt64, math.MinInt64} {
		for _, kind := range []int8{api.PForward, api.PDiff, api.PPropose} {
			p := some(kind)
			p.Txn.From.Number = n
			checks(t, "a number of a transaction in kind "+text(kind), p, n > 0 || n == 0 && kind != api.PForward)
		}
	}
}

// TestTxnThatMayNotBe: what layer 4 refuses, and what it just lets pass.
func TestTxnThatMayNotBe(t *testing.T) {
	for i, c := range []struct {
		change func(x *api.Txn)
		may    bool
	}{
		{func(x *api.Txn) { x.From.Server = 6 }, true},
		{func(x *api.Txn) { x.From.Server = 7 }, false},
		{func(x *api.Txn) { x.From.Server = -1 }, false},
		{func(x *api.Txn) { x.From.Boot = 0 }, true},
		{func(x *api.Txn) { x.Req = api.Request{} }, false},
		{func(x *api.Txn) { x.Req.Kind = api.GetData }, false},
		{func(x *api.Txn) { x.Req.Data = []byte{1} }, false},
		{func(x *api.Txn) { x.Req = api.Request{Kind: api.Open, Timeout: 1000} }, true},
		{func(x *api.Txn) { x.Req = api.Request{Kind: api.Open, Timeout: 1001} }, false},
		{func(x *api.Txn) { x.Req = api.Request{Kind: api.SetData, Data: make([]byte, 96)} }, true},
		{func(x *api.Txn) { x.Req = api.Request{Kind: api.SetData, Data: make([]byte, 97)} }, false},
		{func(x *api.Txn) { x.Req = api.Request{Kind: api.Multi} }, false},
		{func(x *api.Txn) { x.Req = api.Request{Kind: api.Multi, Ops: []api.Request{{Kind: api.Multi}}} }, false},
		{func(x *api.Txn) { x.Req = api.Request{Kind: api.Close, Session: 1} }, true},
	} {
		for _, kind := range []int8{api.PForward, api.PDiff, api.PPropose} {
			p := some(kind)
			c.change(&p.Txn)
			checks(t, "transaction "+strconv.Itoa(i)+" in kind "+text(kind), p, c.may)
		}
	}
}

func TestChunks(t *testing.T) {
	for _, n := range []int{0, 1, 2, 64, 4095, 4096, 4097, 8192, 1 << 20} {
		for _, final := range []bool{false, true} {
			p := some(api.PChunk)
			p.Bytes, p.Final = bytes.Repeat([]byte{0xAB}, n), final
			checks(t, "a Chunk of "+strconv.Itoa(n), p, n >= 1 && n <= 4096)
		}
	}
}

// TestTruthsAreFree: Counted and Final are right either way.
func TestTruthsAreFree(t *testing.T) {
	for _, v := range []bool{false, true} {
		p := some(api.PAckEpoch)
		p.Counted = v
		checks(t, "an AckEpoch", p, true)
		p = some(api.PChunk)
		p.Final = v
		checks(t, "a Chunk", p, true)
	}
}

// TestNested: 2^16 requests within one another, which is what the document bounds.
func TestNested(t *testing.T) {
	r := api.Request{Kind: api.Create}
	for range 1 << 16 {
		r = api.Request{Kind: api.Multi, Ops: []api.Request{r}}
	}
	for kind := int8(0); kind <= lastKind+1; kind++ {
		p := some(kind)
		p.Txn.Req = r
		refuses(t, "requests within one another in kind "+text(kind), p)
	}
}
