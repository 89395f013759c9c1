package packet_test

import (
	"bytes"
	"slices"
	"testing"

	"lagoon/api"
	"lagoon/packet"
)

// parts are the bytes of what some has, by hand: each field's bytes begin with a digit of its own.
var parts = map[string][]byte{
	"Conn":    {0xA1, 0xA2, 0xA3, 0xA4, 0xA5, 0xA6, 0xA7, 0xA8},
	"Lead":    {0xB1, 0xB2, 0xB3, 0xB4, 0xB5, 0xB6, 0xB7, 0xB8},
	"Place":   {0x01, 0x02, 0x03, 0x04, 0x05, 0x06, 0x07, 0x08},
	"Epoch":   {0x11, 0x12, 0x13, 0x14},
	"Current": {0x21, 0x22, 0x23, 0x24},
	"Zxid":    {0x31, 0x32, 0x33, 0x34, 0xC1, 0xC2, 0xC3, 0xC4},
	"Prev":    {0x41, 0x42, 0x43, 0x44, 0xD1, 0xD2, 0xD3, 0xD4},
	"Counted": {1},
	"Final":   {1},
	"Txn": {0, 0, 0, 44, 0x51, 0x52, 0x53, 0x54, 0xE1, 0xE2, 0xE3, 0xE4, 3, 0, 0, 0, 4, 0x61, 0x62, 0x63, 0x64, 0x65, 0x66, 0x67, 0x68,
		2, 0, 0, 0, 2, '/', 'a', 255, 255, 255, 255, 0, 0, 0, 0, 0, 0, 0, 0, 0, 0, 0, 0},
	"Bytes":   {0, 0, 0, 5, 0xF1, 0xF2, 0xF3, 0xF4, 0xF5},
	"Session": {0x71, 0x72, 0x73, 0x74, 0x75, 0x76, 0x77, 0x78},
}

// rows are the kinds with their fields in the order of the struct's, and how many bytes some of each kind has.
var rows = []struct {
	kind   int8
	fields []string
	size   int
}{
	{1, []string{"Conn", "Epoch"}, 17},
	{2, []string{"Conn", "Lead", "Place", "Epoch"}, 33},
	{3, []string{"Conn", "Lead", "Place", "Epoch", "Current", "Zxid", "Counted"}, 46},
	{4, []string{"Conn", "Lead", "Place", "Zxid"}, 37},
	{5, []string{"Conn", "Lead", "Place", "Prev", "Txn"}, 85},
	{6, []string{"Conn", "Lead", "Place", "Final", "Bytes"}, 39},
	{7, []string{"Conn", "Lead", "Place", "Epoch", "Zxid"}, 41},
	{8, []string{"Conn", "Lead", "Place", "Epoch"}, 33},
	{9, []string{"Conn", "Lead", "Place", "Zxid"}, 37},
	{10, []string{"Conn", "Lead", "Place", "Prev", "Txn"}, 85},
	{11, []string{"Conn", "Lead", "Place", "Zxid"}, 37},
	{12, []string{"Conn", "Lead", "Place", "Zxid"}, 37},
	{13, []string{"Conn", "Lead", "Place", "Txn"}, 77},
	{14, []string{"Conn", "Lead", "Place", "Session"}, 37},
}

// sumOf is Adler-32 by the first chapter's words.
func sumOf(b []byte) []byte {
	a, c := 1, 0
	for _, x := range b {
		a = (a + int(x)) % 65521
		c = (c + a) % 65521
	}
	return []byte{byte(c >> 8), byte(c), byte(a >> 8), byte(a)}
}

// TestRows: each kind's bytes, field by field; read again; written again.
func TestRows(t *testing.T) {
	if len(rows) != lastKind {
		t.Fatalf("%d rows", len(rows))
	}
	for _, c := range rows {
		body := []byte{byte(c.kind)}
		for _, f := range c.fields {
			part := bytes.Clone(parts[f])
			if f == "Txn" && c.kind == api.PForward {
				copy(part[4:], make([]byte, 8)) // it has no zxid yet
			}
			body = append(body, part...)
		}
		want := slices.Concat(sumOf(body), body)
		p := some(c.kind)
		b, e := packet.Write(p)
		if e != api.OK || len(b) != c.size || !bytes.Equal(b, want) {
			t.Errorf("P15.2: kind %d: Write: % x, %d, not % x", c.kind, b, e, want)
		}
		reads(t, "kind "+text(c.kind), want, p)
		if !bytes.Equal(laid(p), want) {
			t.Errorf("the test's own bytes of kind %d: % x", c.kind, laid(p))
		}
	}
}

// TestFieldByField: of each field another value changes just its own bytes, and the sum.
func TestFieldByField(t *testing.T) {
	for _, c := range rows {
		from := 5
		for _, f := range c.fields {
			p, q := some(c.kind), some(c.kind)
			take(&q, least(c.kind), f)
			if f == "Txn" {
				q.Txn = p.Txn
				q.Txn.From.Number, q.Txn.From.Server = 1, 0
			}
			if f == "Bytes" {
				q.Bytes = []byte{9, 8, 7, 6, 5}
			}
			to := from + len(fieldBytes(p, f))
			a, _ := packet.Write(p)
			b, e := packet.Write(q)
			if e != api.OK || !bytes.Equal(a[4:from], b[4:from]) || !bytes.Equal(a[to:], b[to:]) || !bytes.Equal(b[from:to], fieldBytes(q, f)) || bytes.Equal(a[from:to], b[from:to]) {
				t.Errorf("P15.2: %s of kind %d: % x, % x, %d", f, c.kind, a, b, e)
			}
			reads(t, f+" of kind "+text(c.kind), b, q)
			from = to
		}
		if b, _ := packet.Write(some(c.kind)); from != len(b) {
			t.Errorf("P15.2: kind %d has bytes beside its fields': %d of %d", c.kind, from, len(b))
		}
	}
}

// TestThereAndBack: what Write gives Read takes as the same, and of that Write gives the same bytes.
func TestThereAndBack(t *testing.T) {
	for _, p := range all() {
		b, e := packet.Write(p)
		q, f := packet.Read(b)
		again, g := packet.Write(q)
		if e != api.OK || f != api.OK || g != api.OK || !same(p, q) || !bytes.Equal(b, again) {
			t.Errorf("P15.2, P15.3: %+v: % x, %d; %+v, %d; % x, %d", p, b, e, q, f, again, g)
		}
	}
}

// TestLongest: no packet has more than 4130 bytes, and a transaction's at most 3527.
func TestLongest(t *testing.T) {
	longest := 0
	for kind := int8(1); kind <= lastKind; kind++ {
		b, e := packet.Write(most(kind))
		if e != api.OK {
			t.Errorf("P15.2: the most of kind %d: %d", kind, e)
		}
		longest = max(longest, len(b))
		want := map[int8]int{api.PChunk: 4130, api.PDiff: 3527, api.PPropose: 3527, api.PForward: 3519}[kind]
		if want != 0 && len(b) != want {
			t.Errorf("P15.2: the most of kind %d has %d bytes", kind, len(b))
		}
	}
	if longest != 4130 || longest >= api.MaxPacket {
		t.Errorf("P15.2: the longest has %d bytes", longest)
	}
}
