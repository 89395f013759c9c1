package packet_test

import (
	"bytes"
	"encoding/binary"
	"hash/adler32"
	"slices"
	"strconv"
	"testing"

	"lagoon/api"
	"lagoon/packet"
	"lagoon/txn"
)

// cutter takes bytes apart by the document's words; ok falls where they are none.
type cutter struct {
	rest []byte
	ok   bool
}

func (c *cutter) take(n int) []byte {
	if n < 0 || n > len(c.rest) {
		c.ok = false
		return make([]byte, 8)
	}
	b := c.rest[:n]
	c.rest = c.rest[n:]
	return b
}

func (c *cutter) word() uint32 { return binary.BigEndian.Uint32(c.take(4)) }

func (c *cutter) long() int64 { return int64(binary.BigEndian.Uint64(c.take(8))) }

func (c *cutter) pair() (uint32, uint32) {
	first := c.word()
	return first, c.word()
}

func (c *cutter) truth() bool {
	b := c.take(1)[0]
	c.ok = c.ok && b <= 1
	return b == 1
}

func (c *cutter) sized() []byte { return c.take(int(int32(c.word()))) }

func (c *cutter) field(p *api.Packet, field string) {
	switch field {
	case "Conn":
		p.Conn.Boot, p.Conn.Try = c.pair()
	case "Lead":
		p.Lead.Boot, p.Lead.Try = c.pair()
	case "Place":
		p.Place = c.long()
	case "Epoch":
		p.Epoch = c.word()
	case "Current":
		p.Current = c.word()
	case "Zxid":
		p.Zxid.Epoch, p.Zxid.N = c.pair()
	case "Prev":
		p.Prev.Epoch, p.Prev.N = c.pair()
	case "Counted":
		p.Counted = c.truth()
	case "Final":
		p.Final = c.truth()
	case "Txn":
		x, e := txn.Read(c.sized())
		c.ok = c.ok && e == api.OK
		p.Txn = x
	case "Bytes":
		p.Bytes = c.sized()
	case "Session":
		p.Session = c.long()
	}
}

// told is the packet of which b is the bytes, by the document's words.
func told(b []byte) (api.Packet, bool) {
	if len(b) < 5 || binary.BigEndian.Uint32(b) != adler32.Checksum(b[4:]) {
		return api.Packet{}, false
	}
	c := cutter{rest: b[5:], ok: true}
	p := api.Packet{Kind: int8(b[4])}
	for _, f := range fieldNames {
		if names(p.Kind, f) {
			c.field(&p, f)
		}
	}
	return p, c.ok && len(c.rest) == 0 && areRight(p) // what is not named was left zero
}

// judges looks that Read takes bytes just where they are a packet's, and that Write then gives just them.
func judges(t *testing.T, what string, b []byte) bool {
	t.Helper()
	want, is := told(b)
	if !is {
		unread(t, what, b)
		return false
	}
	reads(t, what, b, want)
	if again, e := packet.Write(want); e != api.OK || !bytes.Equal(again, b) {
		t.Fatalf("P15.2: %s: Write of what Read took: % x, %d, not % x", what, again, e, b)
	}
	return true
}

// small are packets that are short enough to be turned in every way, every kind among them.
func small() []api.Packet {
	var out []api.Packet
	for kind := int8(1); kind <= lastKind; kind++ {
		out = append(out, some(kind), least(kind))
	}
	return out
}

func TestNoBytes(t *testing.T) {
	unread(t, "nil", nil)
	for n := range 100 {
		unread(t, "zeros", make([]byte, n))
		unread(t, "ones", bytes.Repeat([]byte{255}, n))
		unread(t, "zeros with their sum", summed(make([]byte, n)))
		unread(t, "ones with their sum", summed(bytes.Repeat([]byte{255}, n)))
		judges(t, "bytes of 1 with their sum", summed(bytes.Repeat([]byte{1}, n)))
	}
	for kind := range 256 {
		unread(t, "a kind alone", summed([]byte{byte(kind)}))
	}
}

// TestTooMany: more bytes than any packet has, at and beyond all bounds, with a sum that is right.
func TestTooMany(t *testing.T) {
	for _, n := range []int{4131, 8191, 8192, 8193, 1 << 20} {
		body := laid(most(api.PChunk))[4:]
		more := summed(append(body, make([]byte, n-4-len(body))...))
		unread(t, "a Chunk with bytes behind it, "+strconv.Itoa(n)+" in all", more)
		long := some(api.PChunk)
		long.Bytes = make([]byte, n-34)
		unread(t, "a Chunk that is too long, "+strconv.Itoa(n)+" in all", laid(long))
	}
}

// TestBeginnings: no beginning of a packet's bytes is one's, also with a sum of its own; nor are they with more behind them, nor without their first bytes.
func TestBeginnings(t *testing.T) {
	for _, p := range all() {
		b := laid(p)
		what := "kind " + text(p.Kind)
		for n := range b {
			unread(t, what+": a beginning", b[:n])
			unread(t, what+": an end", b[n+1:])
			if n >= 4 {
				unread(t, what+": a beginning with its sum", summed(b[4:n]))
			}
		}
		for more := range 256 {
			unread(t, what+": a byte more", append(bytes.Clone(b), byte(more)))
			unread(t, what+": a byte more, and its sum", summed(append(bytes.Clone(b[4:]), byte(more))))
		}
		unread(t, what+": twice", slices.Concat(b, b))
		unread(t, what+": twice, and its sum", summed(slices.Concat(b[4:], b)))
	}
}

// TestTurned: each single byte turned to every other value; of the longest ones each byte in some ways.
func TestTurned(t *testing.T) {
	for _, p := range small() {
		b := laid(p)
		for at := range b {
			for xor := 1; xor < 256; xor++ {
				b[at] ^= byte(xor)
				unread(t, "kind "+text(p.Kind)+": byte "+strconv.Itoa(at)+" turned", b)
				b[at] ^= byte(xor)
			}
		}
	}
	for kind := int8(1); kind <= lastKind; kind++ {
		b := laid(most(kind))
		for at := range b {
			for _, xor := range []byte{1, 0x80, 0xFF} {
				b[at] ^= xor
				unread(t, "the most of kind "+text(kind)+": byte "+strconv.Itoa(at)+" turned", b)
				b[at] ^= xor
			}
		}
	}
}

// TestTurnedWithItsSum: the same, with the sum made right behind the turning: then it is a packet's just where the document says so.
func TestTurnedWithItsSum(t *testing.T) {
	taken := 0
	for _, p := range small() {
		body := laid(p)[4:]
		for at := range body {
			for xor := 1; xor < 256; xor++ {
				body[at] ^= byte(xor)
				if judges(t, "kind "+text(p.Kind)+": byte "+strconv.Itoa(at+4)+" turned, and the sum", summed(body)) {
					taken++
				}
				body[at] ^= byte(xor)
			}
		}
	}
	for kind := int8(1); kind <= lastKind; kind++ {
		body := laid(most(kind))[4:]
		for at := range body {
			body[at] ^= 0x81
			judges(t, "the most of kind "+text(kind)+": byte "+strconv.Itoa(at+4)+" turned, and the sum", summed(body))
			body[at] ^= 0x81
		}
	}
	if taken == 0 {
		t.Error("no turned bytes were a packet's: the test looks at nothing")
	}
}

// TestTruths: a truth is 0 or 1, and no other byte says it.
func TestTruths(t *testing.T) {
	for n := range 256 {
		ack := some(api.PAckEpoch)
		ack.Counted = n == 1
		body := laid(ack)[4:]
		body[len(body)-1] = byte(n)
		is := judges(t, "Counted "+strconv.Itoa(n), summed(body))
		chunk := some(api.PChunk)
		chunk.Final = n == 1
		body = laid(chunk)[4:]
		body[25] = byte(n)
		if judges(t, "Final "+strconv.Itoa(n), summed(body)) != is || is != (n <= 1) {
			t.Errorf("P15.3: a truth of %d", n)
		}
	}
}

// TestLengths: the length of a buffer that is not that of what stands there.
func TestLengths(t *testing.T) {
	for _, c := range []struct {
		kind int8
		at   int // where the length stands behind the sum
	}{
		{api.PChunk, 26}, {api.PDiff, 33}, {api.PPropose, 33}, {api.PForward, 25},
	} {
		for _, p := range []api.Packet{some(c.kind), least(c.kind), most(c.kind)} {
			body := laid(p)[4:]
			right := binary.BigEndian.Uint32(body[c.at:])
			if int(right) != len(body)-c.at-4 {
				t.Fatalf("the length of kind %d does not stand at %d", c.kind, c.at)
			}
			for _, n := range []uint32{0, 1, right - 1, right + 1, right + 4, 4096, 4097, 8192, 1 << 16, 1<<31 - 1, 1 << 31, 1<<32 - 1, -right} {
				if n == right {
					continue
				}
				binary.BigEndian.PutUint32(body[c.at:], n)
				unread(t, "a length of "+strconv.Itoa(int(int32(n)))+" in kind "+text(c.kind), summed(body))
				unread(t, "the same with more behind it", summed(append(bytes.Clone(body), make([]byte, 5)...)))
			}
		}
	}
}

// TestWrongSums: every sum but the right one.
func TestWrongSums(t *testing.T) {
	for _, p := range small() {
		b := laid(p)
		right := binary.BigEndian.Uint32(b)
		for _, n := range []uint32{0, 1, 1<<32 - 1, right + 1, right - 1, ^right, right<<16 | right>>16, right ^ 1<<31, adler32.Checksum(b), adler32.Checksum(b[5:])} {
			binary.BigEndian.PutUint32(b, n)
			judges(t, "another sum", b)
			if n == right {
				t.Fatal("the sum is the right one")
			}
		}
	}
}

// TestTxnBytesThatAreNone: a buffer of a transaction that is a beginning of one, or has more behind it, though all lengths and the sum are right.
func TestTxnBytesThatAreNone(t *testing.T) {
	for _, kind := range []int8{api.PDiff, api.PPropose, api.PForward} {
		b, e := txn.Write(some(kind).Txn)
		if e != api.OK {
			t.Fatal(e)
		}
		body := laid(some(kind))[4:]
		ahead := body[:len(body)-len(b)-4]
		for n := range b {
			unread(t, "a beginning of a transaction", summed(slices.Concat(ahead, sized(b[:n]))))
		}
		unread(t, "a transaction and a byte", summed(slices.Concat(ahead, sized(append(b, 0)))))
		unread(t, "a transaction that is too long", summed(slices.Concat(ahead, sized(make([]byte, 4097)))))
	}
}
