package pack_test

import (
	"bytes"
	"hash/adler32"
	"testing"

	"lagoon/pack"
)

func TestSumExamples(t *testing.T) {
	for _, c := range []struct {
		b    []byte
		want uint32
	}{
		{nil, 1},
		{[]byte{}, 1},
		{[]byte{0}, 0x00010001},
		{[]byte{7}, 0x00080008},
		{[]byte{255}, 0x01000100},
		{[]byte("a"), 0x00620062},
		{[]byte("abc"), 0x024D0127},
	} {
		if n := pack.Sum(c.b); n != c.want {
			t.Errorf("P1.1: Sum(% x): %08x, not %08x", c.b, n, c.want)
		}
	}
}

// TestSumWraps: the places where a, and where b, first reach 65521, and bytes so many that either wraps often.
func TestSumWraps(t *testing.T) {
	for _, fill := range []byte{0, 1, 5, 254, 255} {
		for _, n := range []int{2, 22, 23, 256, 257, 361, 362, 5552, 5553, 13104, 65519, 65520, 65521, 200000} {
			b := bytes.Repeat([]byte{fill}, n)
			if got, want := pack.Sum(b), adler32.Checksum(b); got != want {
				t.Errorf("P1.1: Sum of %d bytes %d: %08x, not %08x", n, fill, got, want)
			}
		}
	}
}

func TestSumTellsOneOtherByte(t *testing.T) {
	b := bytes.Repeat([]byte{250, 3, 0}, 40)
	sum := pack.Sum(b)
	for i := range b {
		for by := 1; by < 256; by++ {
			b[i] ^= byte(by)
			if pack.Sum(b) == sum {
				t.Fatalf("P1.1: byte %d turned by %02x: the same sum", i, by)
			}
			b[i] ^= byte(by)
		}
	}
	if pack.Sum(b) != sum {
		t.Errorf("R5: Sum changed its bytes")
	}
}
