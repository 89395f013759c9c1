package packet_test

import (
	"bytes"
	"math/rand/v2"
	"testing"

	"lagoon/api"
	"lagoon/packet"
)

// anyWord is a number of any width, now and then at a bound.
func anyWord(g *rand.Rand) uint32 {
	ends := []uint32{0, 1, 2, 1<<31 - 1, 1 << 31, 1<<32 - 1}
	if g.IntN(4) == 0 {
		return ends[g.IntN(len(ends))]
	}
	return g.Uint32() >> (1 + g.IntN(31))
}

func anyLong(g *rand.Rand) int64 {
	ends := []int64{0, 1, -1, 1<<63 - 1, -1 << 63}
	if g.IntN(8) == 0 {
		return ends[g.IntN(len(ends))]
	}
	return int64(g.Uint64() >> (1 + g.IntN(63)))
}

func anyZxid(g *rand.Rand) api.Zxid {
	if g.IntN(4) == 0 {
		return api.Zxid{}
	}
	return z(anyWord(g), anyWord(g))
}

func anyBytes(g *rand.Rand, most int) []byte {
	b := make([]byte, g.IntN(most+1))
	for i := range b {
		b[i] = byte(g.UintN(256))
	}
	return b
}

func anyTxn(g *rand.Rand) api.Txn {
	x := remove(anyZxid(g), max(anyLong(g), 0))
	switch g.IntN(5) {
	case 0:
		x.Req = api.Request{Kind: api.SetData, Path: string(anyBytes(g, 64)), Data: anyBytes(g, 96), Session: 1}
	case 1:
		x.Req = api.Request{Kind: api.Open, Timeout: int32(anyWord(g) % 1002)}
	case 2:
		x.Req = longest(x.Zxid, 1).Req
	case 3:
		x.From.Server = int8(g.IntN(9) - 1)
	}
	return x
}

// anyPacket is one of a kind, with now and then a field that is not named, or another kind.
func anyPacket(g *rand.Rand) api.Packet {
	whole := api.Packet{
		Conn: conn(anyWord(g), anyWord(g)), Lead: conn(anyWord(g), anyWord(g)), Place: anyLong(g), Epoch: anyWord(g), Current: anyWord(g),
		Zxid: anyZxid(g), Prev: anyZxid(g), Counted: g.IntN(2) == 0, Final: g.IntN(2) == 0, Txn: anyTxn(g), Bytes: anyBytes(g, 200), Session: anyLong(g),
	}
	kind := int8(1 + g.IntN(lastKind))
	if kind == api.PForward && g.IntN(3) > 0 {
		whole.Txn.Zxid = api.Zxid{}
	}
	p := only(kind, whole)
	if g.IntN(20) == 0 {
		take(&p, whole, fieldNames[g.IntN(len(fieldNames))])
	}
	if g.IntN(20) == 0 {
		p.Kind = int8(g.IntN(18) - 2)
	}
	return p
}

// TestAny: packets of every kind, held against the document's words.
func TestAny(t *testing.T) {
	g := rand.New(rand.NewPCG(15, 1))
	may, not := 0, 0
	for range 25000 {
		p := anyPacket(g)
		is := mayBe(p)
		checks(t, "any packet", p, is)
		if is {
			may++
		} else {
			not++
		}
	}
	if may < 5000 || not < 5000 {
		t.Errorf("of the test's packets %d may be, %d may not", may, not)
	}
}

// TestAnyTurned: of what Write gives with some bytes turned, left out or put in, the sum made right, Read takes just what is a packet's.
func TestAnyTurned(t *testing.T) {
	g := rand.New(rand.NewPCG(15, 2))
	for range 60000 {
		b, e := packet.Write(anyPacket(g))
		if e != api.OK {
			continue
		}
		body := b[4:]
		for range 1 + g.IntN(3) {
			at := g.IntN(len(body))
			switch g.IntN(4) {
			case 0:
				body = append(body[:at:at], body[at+1:]...)
			case 1:
				body = append(body[:at:at], append([]byte{byte(g.UintN(256))}, body[at:]...)...)
			default:
				body[at] = byte(g.UintN(256))
			}
		}
		judges(t, "any turned bytes", summed(body))
	}
}

// TestOneForm: two packets that are not the same have not the same bytes, and two that are have.
func TestOneForm(t *testing.T) {
	g := rand.New(rand.NewPCG(15, 3))
	seen := map[string]api.Packet{}
	for range 20000 {
		p := anyPacket(g)
		b, e := packet.Write(p)
		if e != api.OK {
			continue
		}
		if q, is := seen[string(b)]; is && !same(p, q) {
			t.Errorf("P15.2: %+v and %+v have the same bytes", p, q)
		}
		seen[string(b)] = p
		if again, _ := packet.Write(p); !bytes.Equal(b, again) {
			t.Errorf("R6: %+v: % x, then % x", p, b, again)
		}
	}
}

// FuzzRead: whatever the bytes, with their own sum and with the right one, Read takes just what is a packet's.
func FuzzRead(f *testing.F) {
	for _, p := range small() {
		f.Add(laid(p))
	}
	f.Fuzz(func(t *testing.T, b []byte) {
		judges(t, "bytes", b)
		judges(t, "bytes with their sum", summed(b))
		if len(b) > 4 {
			judges(t, "bytes with the sum made right", summed(b[4:]))
		}
	})
}
