package packet_test

import (
	"bytes"
	"testing"

	"lagoon/api"
	"lagoon/packet"
)

// info is the first example, and infoBytes are its bytes as the chapter has them.
func info() api.Packet {
	return api.Packet{Kind: api.PInfo, Conn: conn(3, 1), Epoch: 2}
}

func infoBytes() []byte {
	return []byte{0x00, 0x3C, 0x00, 0x08, 0x01, 0, 0, 0, 3, 0, 0, 0, 1, 0, 0, 0, 2}
}

func TestFirstExample(t *testing.T) {
	b, e := packet.Write(info())
	if e != api.OK || len(b) != 17 || !bytes.Equal(b, infoBytes()) {
		t.Errorf("P15.2: Write: % x, %d", b, e)
	}
	reads(t, "the first example", infoBytes(), info())
	checks(t, "the first example", info(), true)
}

func TestSecondExample(t *testing.T) {
	for what, change := range map[string]func(p *api.Packet){
		"a Lead":           func(p *api.Packet) { p.Lead = conn(1, 1) },
		"a Place":          func(p *api.Packet) { p.Place = 1 },
		"Conn {0, 1}":      func(p *api.Packet) { p.Conn = conn(0, 1) },
		"Conn {3, 0}":      func(p *api.Packet) { p.Conn = conn(3, 0) },
		"Epoch 2147483648": func(p *api.Packet) { p.Epoch = 2147483648 },
	} {
		p := info()
		change(&p)
		checks(t, "an Info with "+what, p, false)
	}
	p := info()
	p.Epoch = 0
	checks(t, "an Info with Epoch 0", p, true)
}

// bound is a packet of a kind from the first connection to the first leadership.
func bound(kind int8) api.Packet {
	return api.Packet{Kind: kind, Conn: conn(1, 1), Lead: conn(1, 1)}
}

func TestThirdExample(t *testing.T) {
	p := bound(api.PAck)
	p.Place, p.Zxid = 4, z(1, 2)
	checks(t, "an Ack", p, true)
	b, _ := packet.Write(p)
	behind := []byte{11, 0, 0, 0, 1, 0, 0, 0, 1, 0, 0, 0, 1, 0, 0, 0, 1, 0, 0, 0, 0, 0, 0, 0, 4, 0, 0, 0, 1, 0, 0, 0, 2}
	if len(b) != 37 || !bytes.Equal(b[4:], behind) {
		t.Errorf("P15.2: % x", b)
	}
	zero, low := p, p
	zero.Zxid, low.Place = api.Zxid{}, -1
	checks(t, "an Ack of zero", zero, false)
	checks(t, "an Ack at -1", low, false)
}

func TestFourthExample(t *testing.T) {
	p := bound(api.PDiff)
	p.Prev, p.Txn = z(1, 1), remove(z(1, 1), 5)
	checks(t, "a Diff of (1, 1) behind it", p, false)
	p.Txn = remove(z(1, 2), 5)
	checks(t, "a Diff of (1, 2) behind (1, 1)", p, true)
	p = bound(api.PForward)
	p.Txn = remove(api.Zxid{}, 0)
	checks(t, "a Forward of number 0", p, false)
	p.Txn = remove(api.Zxid{}, 1)
	checks(t, "a Forward of number 1", p, true)
}

func TestFifthExample(t *testing.T) {
	p := bound(api.PChunk)
	checks(t, "a Chunk without Bytes", p, false)
	p.Bytes = make([]byte, 4096)
	checks(t, "a Chunk of 4096", p, true)
	if b, _ := packet.Write(p); len(b) != 4130 {
		t.Errorf("P15.2: a Chunk of 4096: %d bytes", len(b))
	}
	p.Bytes = make([]byte, 4097)
	checks(t, "a Chunk of 4097", p, false)
}

func TestSixthExample(t *testing.T) {
	unread(t, "no bytes", nil)
	unread(t, "16 bytes", infoBytes()[:16])
	unread(t, "all 17 and a 00", append(infoBytes(), 0))
}
