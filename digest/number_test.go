package digest

import (
	"hash/fnv"
	"testing"
)

// TestNumberOfBytes: the chapter's own two, and others that are known of FNV-1a.
func TestNumberOfBytes(t *testing.T) {
	for text, want := range map[string]uint64{
		"":         14695981039346656037,
		"\x61":     0xAF63DC4C8601EC8C,
		"foobar":   0x85944171F73967E8,
		"\x00":     0xAF63BD4C8601B7DF,
		"\x00\x00": 0x08328807B4EB6FED,
	} {
		if h := numberOf([]byte(text)...); h != want {
			t.Errorf("P8.1: the number of % x: %X, not %X", text, h, want)
		}
	}
	if numberOf() != 0xCBF29CE484222325 {
		t.Errorf("P8.1: the number of no bytes: %X", numberOf())
	}
}

// TestNumberOfTwoBytes goes through all, so that a byte above 127 is taken as it is, wherever it stands.
func TestNumberOfTwoBytes(t *testing.T) {
	for n := range 1 << 16 {
		b := []byte{byte(n >> 8), byte(n)}
		h := fnv.New64a()
		h.Write(b)
		if numberOf(b...) != h.Sum64() {
			t.Fatalf("P8.1: the number of % x: %X, not %X", b, numberOf(b...), h.Sum64())
		}
	}
}
