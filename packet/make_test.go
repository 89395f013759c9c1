package packet_test

import (
	"bytes"
	"encoding/binary"
	"hash/adler32"
	"reflect"
	"slices"
	"strings"
	"testing"

	"lagoon/api"
	"lagoon/packet"
	"lagoon/txn"
)

// fieldNames are a packet's fields beside its kind, in the struct's order.
var fieldNames = []string{"Conn", "Lead", "Place", "Epoch", "Current", "Zxid", "Prev", "Counted", "Final", "Txn", "Bytes", "Session"}

// named is the document's table of what the kinds name.
var named = map[int8][]string{
	1:  {"Conn", "Epoch"},
	2:  {"Conn", "Lead", "Place", "Epoch"},
	3:  {"Conn", "Lead", "Place", "Epoch", "Current", "Zxid", "Counted"},
	4:  {"Conn", "Lead", "Place", "Zxid"},
	5:  {"Conn", "Lead", "Place", "Prev", "Txn"},
	6:  {"Conn", "Lead", "Place", "Final", "Bytes"},
	7:  {"Conn", "Lead", "Place", "Epoch", "Zxid"},
	8:  {"Conn", "Lead", "Place", "Epoch"},
	9:  {"Conn", "Lead", "Place", "Zxid"},
	10: {"Conn", "Lead", "Place", "Prev", "Txn"},
	11: {"Conn", "Lead", "Place", "Zxid"},
	12: {"Conn", "Lead", "Place", "Zxid"},
	13: {"Conn", "Lead", "Place", "Txn"},
	14: {"Conn", "Lead", "Place", "Session"},
}

// lastKind is the last one that there is.
const lastKind = 14

// names tells whether a kind names a field.
func names(kind int8, field string) bool { return slices.Contains(named[kind], field) }

func z(epoch, n uint32) api.Zxid { return api.Zxid{Epoch: epoch, N: n} }

func conn(boot, try uint32) api.Conn { return api.Conn{Boot: boot, Try: try} }

// remove is a transaction of 44 bytes.
func remove(at api.Zxid, number int64) api.Txn {
	return api.Txn{Zxid: at, From: api.Origin{Server: 3, Boot: 4, Number: number}, Req: api.Request{Kind: api.Delete, Path: "/a", Version: -1}}
}

// longest is a transaction of 3486 bytes, the most that one has.
func longest(at api.Zxid, number int64) api.Txn {
	wide := api.Id{Scheme: strings.Repeat("s", api.MaxId), Name: strings.Repeat("n", api.MaxId)}
	op := api.Request{
		Kind: api.Create, Path: strings.Repeat("p", api.MaxPath), Data: bytes.Repeat([]byte{0xD0}, api.MaxData),
		Acl: slices.Repeat([]api.Entry{{Perms: -128, Who: wide}}, api.MaxAcl), Ephemeral: true,
	}
	return api.Txn{
		Zxid: at, From: api.Origin{Server: 6, Boot: 1<<32 - 1, Number: number},
		Req: api.Request{Kind: api.Multi, Session: 1<<63 - 1, Who: slices.Repeat([]api.Id{wide}, api.MaxIds), Ops: slices.Repeat([]api.Request{op}, api.MaxOps)},
	}
}

// some puts into each field what may be there, no byte of it like another.
func some(kind int8) api.Packet {
	p := api.Packet{
		Conn: conn(0xA1A2A3A4, 0xA5A6A7A8), Lead: conn(0xB1B2B3B4, 0xB5B6B7B8), Place: 0x0102030405060708,
		Epoch: 0x11121314, Current: 0x21222324, Zxid: z(0x31323334, 0xC1C2C3C4), Prev: z(0x41424344, 0xD1D2D3D4),
		Counted: true, Final: true, Txn: remove(z(0x51525354, 0xE1E2E3E4), 0x6162636465666768),
		Bytes: []byte{0xF1, 0xF2, 0xF3, 0xF4, 0xF5}, Session: 0x7172737475767778,
	}
	if kind == api.PForward {
		p.Txn.Zxid = api.Zxid{}
	}
	return only(kind, p)
}

// least puts the least that may be into each field.
func least(kind int8) api.Packet {
	p := api.Packet{Conn: conn(1, 1), Lead: conn(1, 1), Epoch: 1, Txn: remove(z(1, 1), 0), Bytes: []byte{0}, Session: 1}
	switch kind {
	case api.PInfo:
		p.Epoch = 0
	case api.PAck, api.PCommit:
		p.Zxid = z(1, 1)
	case api.PForward:
		p.Txn = remove(api.Zxid{}, 1)
	}
	return only(kind, p)
}

// most puts the most that may be into each field.
func most(kind int8) api.Packet {
	last := z(api.LastEpoch, api.LastCounter)
	p := api.Packet{
		Conn: conn(1<<32-1, 1<<32-1), Lead: conn(1<<32-1, 1<<32-1), Place: 1<<63 - 1,
		Epoch: api.LastEpoch, Current: api.LastEpoch, Zxid: last, Prev: z(api.LastEpoch, api.LastCounter-1),
		Counted: true, Final: true, Txn: longest(last, 1<<63-1), Bytes: bytes.Repeat([]byte{0xFF}, api.MaxChunk), Session: 1<<63 - 1,
	}
	if kind == api.PForward {
		p.Txn.Zxid = api.Zxid{}
	}
	return only(kind, p)
}

// all are some of every kind, its least and its most.
func all() []api.Packet {
	var out []api.Packet
	for kind := int8(1); kind <= lastKind; kind++ {
		out = append(out, some(kind), least(kind), most(kind))
	}
	return out
}

// only keeps of a packet what its kind names.
func only(kind int8, p api.Packet) api.Packet {
	out := api.Packet{Kind: kind}
	for _, f := range named[kind] {
		take(&out, p, f)
	}
	return out
}

// take sets one field of a packet to another one's.
func take(p *api.Packet, from api.Packet, field string) {
	reflect.ValueOf(p).Elem().FieldByName(field).Set(reflect.ValueOf(from).FieldByName(field))
}

// same tells whether two packets are the same (R4).
func same(a, b api.Packet) bool {
	alike := txn.Same(a.Txn, b.Txn) && bytes.Equal(a.Bytes, b.Bytes)
	a.Txn, a.Bytes, b.Txn, b.Bytes = api.Txn{}, nil, api.Txn{}, nil
	return alike && reflect.DeepEqual(a, b)
}

// isZero tells whether a field is zero.
func isZero(p api.Packet, field string) bool {
	var q api.Packet
	take(&q, p, field)
	return same(q, api.Packet{})
}

func isConn(c api.Conn) bool { return c.Boot > 0 && c.Try > 0 }

func isZxid(x api.Zxid) bool {
	zero := x.Epoch == 0 && x.N == 0
	return zero || x.Epoch > 0 && x.Epoch < 1<<31 && x.N > 0
}

// above orders zxids by the document's words: by epoch, then by counter.
func above(a, b api.Zxid) bool { return a.Epoch > b.Epoch || a.Epoch == b.Epoch && a.N > b.N }

// isRight is what the document says of a field that is named, without a look at the program.
func isRight(p api.Packet, field string) bool {
	switch field {
	case "Conn":
		return isConn(p.Conn)
	case "Lead":
		return isConn(p.Lead)
	case "Place":
		return p.Place >= 0
	case "Epoch":
		return p.Epoch < 1<<31 && (p.Epoch > 0 || p.Kind == 1)
	case "Current":
		return p.Current < 1<<31
	case "Zxid":
		return isZxid(p.Zxid) && (p.Zxid.N > 0 || p.Kind != 11 && p.Kind != 12)
	case "Prev":
		return isZxid(p.Prev)
	case "Txn":
		if p.Kind == 13 {
			return txn.Check(p.Txn) == api.OK && p.Txn.Zxid.Epoch == 0 && p.Txn.Zxid.N == 0 && p.Txn.From.Number > 0
		}
		return txn.Check(p.Txn) == api.OK && above(p.Txn.Zxid, p.Prev)
	case "Bytes":
		return len(p.Bytes) > 0 && len(p.Bytes) < 4097
	case "Session":
		return p.Session > 0
	}
	return true
}

// areRight is what it says of all that a kind names.
func areRight(p api.Packet) bool {
	for _, f := range named[p.Kind] {
		if !isRight(p, f) {
			return false
		}
	}
	return p.Kind >= 1 && p.Kind <= lastKind
}

// mayBe is what it says of a packet.
func mayBe(p api.Packet) bool {
	for _, f := range fieldNames {
		if !names(p.Kind, f) && !isZero(p, f) {
			return false
		}
	}
	return areRight(p)
}

func two(first, second uint32) []byte {
	return binary.BigEndian.AppendUint32(binary.BigEndian.AppendUint32(nil, first), second)
}

func long(n int64) []byte { return binary.BigEndian.AppendUint64(nil, uint64(n)) }

func sized(b []byte) []byte {
	return append(binary.BigEndian.AppendUint32(nil, uint32(len(b))), b...)
}

func truth(v bool) []byte {
	if v {
		return []byte{1}
	}
	return []byte{0}
}

// fieldBytes are a field's bytes by the document's words; of a transaction that may not be there are none.
func fieldBytes(p api.Packet, field string) []byte {
	switch field {
	case "Conn":
		return two(p.Conn.Boot, p.Conn.Try)
	case "Lead":
		return two(p.Lead.Boot, p.Lead.Try)
	case "Place":
		return long(p.Place)
	case "Epoch":
		return binary.BigEndian.AppendUint32(nil, p.Epoch)
	case "Current":
		return binary.BigEndian.AppendUint32(nil, p.Current)
	case "Zxid":
		return two(p.Zxid.Epoch, p.Zxid.N)
	case "Prev":
		return two(p.Prev.Epoch, p.Prev.N)
	case "Counted":
		return truth(p.Counted)
	case "Final":
		return truth(p.Final)
	case "Txn":
		b, _ := txn.Write(p.Txn)
		return sized(b)
	case "Bytes":
		return sized(p.Bytes)
	}
	return long(p.Session)
}

// summed are bytes with their sum ahead of them.
func summed(body []byte) []byte {
	return append(binary.BigEndian.AppendUint32(nil, adler32.Checksum(body)), body...)
}

// laid is a packet's bytes by the document's words; of one that may not be too.
func laid(p api.Packet) []byte {
	body := []byte{byte(p.Kind)}
	for _, f := range fieldNames {
		if names(p.Kind, f) {
			body = append(body, fieldBytes(p, f)...)
		}
	}
	return summed(body)
}

// checks looks what Check and Write say of a packet, and Read of the bytes that it would have.
func checks(t *testing.T, what string, p api.Packet, may bool) {
	t.Helper()
	if may != mayBe(p) {
		t.Fatalf("the test's own words of %s: %v", what, mayBe(p))
	}
	if !may {
		refuses(t, what, p)
		return
	}
	want := laid(p)
	if e := packet.Check(p); e != api.OK {
		t.Fatalf("P15.1: %s: Check: %d", what, e)
	}
	if b, e := packet.Write(p); e != api.OK || !bytes.Equal(b, want) {
		t.Fatalf("P15.2: %s: Write: % x, %d, not % x", what, b, e, want)
	}
	reads(t, what, want, p)
}

// refuses looks that a packet may not be, and that bytes that have all of it are no packet's.
func refuses(t *testing.T, what string, p api.Packet) {
	t.Helper()
	if e := packet.Check(p); e != api.ErrPacket {
		t.Fatalf("P15.1: %s: Check: %d", what, e)
	}
	if b, e := packet.Write(p); e != api.ErrPacket || len(b) != 0 {
		t.Fatalf("P15.2: %s: Write: % x, %d", what, b, e)
	}
	if same(p, only(p.Kind, p)) {
		unread(t, what, laid(p))
	}
}

// reads looks that bytes are a packet's.
func reads(t *testing.T, what string, b []byte, want api.Packet) {
	t.Helper()
	if p, e := packet.Read(b); e != api.OK || !same(p, want) {
		t.Fatalf("P15.3: %s: Read(% x): %+v, %d, not %+v", what, b, p, e, want)
	}
}

// unread looks that bytes are no packet's.
func unread(t *testing.T, what string, b []byte) {
	t.Helper()
	if p, e := packet.Read(b); e != api.ErrPacket || !reflect.DeepEqual(p, api.Packet{}) {
		t.Fatalf("P15.3: %s: Read(% x): %+v, %d", what, b, p, e)
	}
}
