package packet_test

import (
	"math"
	"strconv"
	"testing"

	"lagoon/api"
)

// kinds are all that a Kind can be.
func kinds() []int8 {
	var out []int8
	for kind := math.MinInt8; kind <= math.MaxInt8; kind++ {
		out = append(out, int8(kind))
	}
	return out
}

func text(n int8) string { return strconv.Itoa(int(n)) }

// TestKinds: what a kind names, and nothing else, for every number that a kind can be; no other one is let pass, whatever stands in it.
func TestKinds(t *testing.T) {
	for _, kind := range kinds() {
		is := kind >= 1 && kind <= 14
		checks(t, "some of kind "+text(kind), some(kind), is)
		checks(t, "the least of kind "+text(kind), least(kind), is)
		checks(t, "the most of kind "+text(kind), most(kind), is)
		for _, p := range all() {
			p.Kind = kind
			checks(t, "what a kind has in kind "+text(kind), p, is && mayBe(p))
		}
	}
	refuses(t, "nothing", api.Packet{})
}

// TestKindsOnTheWire: each kind's fields behind every other kind's byte.
func TestKindsOnTheWire(t *testing.T) {
	for _, p := range all() {
		body := laid(p)[4:]
		for _, kind := range kinds() {
			body[0] = byte(kind)
			judges(t, "kind "+text(p.Kind)+" as "+text(kind), summed(body))
		}
	}
}

// fillings put into a field something other than zero, each in another way.
func fillings() map[string][]func(p *api.Packet) {
	return map[string][]func(p *api.Packet){
		"Conn":    connFillings(func(p *api.Packet) *api.Conn { return &p.Conn }),
		"Lead":    connFillings(func(p *api.Packet) *api.Conn { return &p.Lead }),
		"Place":   longFillings(func(p *api.Packet) *int64 { return &p.Place }),
		"Epoch":   wordFillings(func(p *api.Packet) *uint32 { return &p.Epoch }),
		"Current": wordFillings(func(p *api.Packet) *uint32 { return &p.Current }),
		"Zxid":    zxidFillings(func(p *api.Packet) *api.Zxid { return &p.Zxid }),
		"Prev":    zxidFillings(func(p *api.Packet) *api.Zxid { return &p.Prev }),
		"Counted": {func(p *api.Packet) { p.Counted = true }},
		"Final":   {func(p *api.Packet) { p.Final = true }},
		"Txn":     txnFillings(),
		"Bytes":   {func(p *api.Packet) { p.Bytes = []byte{0} }, func(p *api.Packet) { p.Bytes = make([]byte, 4097) }},
		"Session": longFillings(func(p *api.Packet) *int64 { return &p.Session }),
	}
}

func connFillings(at func(p *api.Packet) *api.Conn) []func(p *api.Packet) {
	return fillingsOf(at, conn(1, 0), conn(0, 1), conn(1, 1), conn(math.MaxUint32, math.MaxUint32))
}

func zxidFillings(at func(p *api.Packet) *api.Zxid) []func(p *api.Packet) {
	return fillingsOf(at, z(1, 0), z(0, 1), z(1, 1), z(1<<31, 1), z(math.MaxUint32, math.MaxUint32))
}

func longFillings(at func(p *api.Packet) *int64) []func(p *api.Packet) {
	return fillingsOf(at, 1, -1, 1<<32, math.MaxInt64, math.MinInt64)
}

func wordFillings(at func(p *api.Packet) *uint32) []func(p *api.Packet) {
	return fillingsOf(at, 1, 1<<31-1, 1<<31, math.MaxUint32)
}

// txnFillings: one that may be, and each of its fields alone.
func txnFillings() []func(p *api.Packet) {
	return fillingsOf(func(p *api.Packet) *api.Txn { return &p.Txn },
		remove(z(1, 1), 1), remove(api.Zxid{}, 1), api.Txn{Zxid: z(0, 1)}, api.Txn{Zxid: z(1, 0)},
		api.Txn{From: api.Origin{Server: 1}}, api.Txn{From: api.Origin{Server: -1}}, api.Txn{From: api.Origin{Boot: 1}},
		api.Txn{From: api.Origin{Number: 1}}, api.Txn{From: api.Origin{Number: -1}},
		api.Txn{Req: api.Request{Kind: 1}}, api.Txn{Req: api.Request{Path: "/"}}, api.Txn{Req: api.Request{Data: []byte{0}}},
		api.Txn{Req: api.Request{Acl: []api.Entry{{}}}}, api.Txn{Req: api.Request{Version: -1}}, api.Txn{Req: api.Request{Ephemeral: true}},
		api.Txn{Req: api.Request{Sequence: true}}, api.Txn{Req: api.Request{Session: 1}}, api.Txn{Req: api.Request{Timeout: 1}},
		api.Txn{Req: api.Request{Who: []api.Id{{}}}}, api.Txn{Req: api.Request{Ops: []api.Request{{}}}},
	)
}

func fillingsOf[T any](at func(p *api.Packet) *T, values ...T) []func(p *api.Packet) {
	var out []func(p *api.Packet)
	for _, v := range values {
		out = append(out, func(p *api.Packet) { *at(p) = v })
	}
	return out
}

// TestNamed: each single field that a kind does not name is filled, in packets that may be without it.
func TestNamed(t *testing.T) {
	for kind := int8(1); kind <= lastKind; kind++ {
		for field, l := range fillings() {
			for i, fill := range l {
				for _, p := range []api.Packet{some(kind), least(kind), most(kind)} {
					fill(&p)
					if isZero(p, field) {
						t.Fatalf("%s: filling %d is none", field, i)
					}
					what := field + " (filling " + strconv.Itoa(i) + ") in kind " + text(kind)
					checks(t, what, p, names(kind, field) && mayBe(p))
				}
			}
		}
	}
}

// TestEverythingNamed: all fields at once are too many for every kind.
func TestEverythingNamed(t *testing.T) {
	for _, kind := range kinds() {
		p := api.Packet{Kind: kind, Place: 1, Counted: true, Final: true}
		for _, other := range []int8{api.PAckEpoch, api.PDiff, api.PChunk, api.PPing} {
			for _, f := range named[other] {
				take(&p, some(other), f)
			}
		}
		refuses(t, "everything in kind "+text(kind), p)
	}
}

// TestNothingNamed: each field that is named left zero, where zero is not right.
func TestNothingNamed(t *testing.T) {
	for kind := int8(1); kind <= lastKind; kind++ {
		for _, field := range named[kind] {
			p := some(kind)
			take(&p, api.Packet{}, field)
			zeroIsRight := map[string]bool{"Place": true, "Epoch": kind == api.PInfo, "Current": true, "Zxid": kind != api.PAck && kind != api.PCommit, "Prev": true, "Counted": true, "Final": true}
			checks(t, "no "+field+" in kind "+text(kind), p, zeroIsRight[field])
		}
	}
}
