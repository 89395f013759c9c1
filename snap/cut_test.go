package snap_test

import (
	"bytes"
	"math"
	"testing"

	"lagoon/api"
	"lagoon/snap"
)

// counting is so many bytes, of which no two near one another are the same.
func counting(n int) []byte {
	b := make([]byte, n)
	for i := range b {
		b[i] = byte(i + i>>8)
	}
	return b
}

// TestCut: how many pieces there are, each of its size but the last, and what they are in order.
func TestCut(t *testing.T) {
	for _, c := range []struct{ n, size, pieces, end int }{
		{5, 2, 3, 1}, {5, 5, 1, 5}, {0, 2, 0, 0}, // the second example
		{0, 1, 0, 0}, {0, api.MaxChunk, 0, 0},
		{1, 1, 1, 1}, {1, 2, 1, 1}, {1, api.MaxChunk, 1, 1},
		{5, 1, 5, 1}, {5, 4, 2, 1}, {5, 6, 1, 5}, {6, 2, 3, 2}, {6, 3, 2, 3},
		{api.MaxChunk - 1, api.MaxChunk, 1, api.MaxChunk - 1},
		{api.MaxChunk, api.MaxChunk, 1, api.MaxChunk},
		{api.MaxChunk + 1, api.MaxChunk, 2, 1},
		{2 * api.MaxChunk, api.MaxChunk, 2, api.MaxChunk},
		{2*api.MaxChunk + 7, api.MaxChunk, 3, 7},
		{api.MaxChunk, api.MaxChunk - 1, 2, 1},
		{1 << 19, 1, 1 << 19, 1},
	} {
		b := counting(c.n)
		l, e := snap.Cut(b, c.size)
		if e != api.OK || len(l) != c.pieces {
			t.Errorf("P9.3: Cut(%d bytes, %d): %d pieces, %d", c.n, c.size, len(l), e)
			continue
		}
		for i, p := range l {
			want := c.size
			if i == len(l)-1 {
				want = c.end
			}
			if len(p) != want {
				t.Errorf("P9.3: Cut(%d bytes, %d): piece %d has %d bytes", c.n, c.size, i, len(p))
			}
		}
		if !bytes.Equal(bytes.Join(l, nil), b) {
			t.Errorf("P9.3: Cut(%d bytes, %d): other bytes", c.n, c.size)
		}
	}
}

// TestCutOfNil: no bytes, whichever they are.
func TestCutOfNil(t *testing.T) {
	for _, b := range [][]byte{nil, {}} {
		if l, e := snap.Cut(b, 2); len(l) != 0 || e != api.OK {
			t.Errorf("P9.3: Cut of no bytes: %d pieces, %d", len(l), e)
		}
	}
}

// TestCutWrongSizes: with bytes and without.
func TestCutWrongSizes(t *testing.T) {
	for _, size := range []int{0, -1, math.MinInt, api.MaxChunk + 1, 4097, math.MaxInt} {
		for _, n := range []int{0, 1, 5, 5000} {
			if l, e := snap.Cut(counting(n), size); l != nil || e != api.ErrArg {
				t.Errorf("P9.3: Cut(%d bytes, %d): %d pieces, %d", n, size, len(l), e)
			}
		}
	}
}

// TestCutOfAnything: bytes need be no image.
func TestCutOfAnything(t *testing.T) {
	for _, b := range [][]byte{[]byte("LGSN"), make([]byte, 9), bytes.Repeat([]byte{255}, 9)} {
		l, e := snap.Cut(b, 4)
		if e != api.OK || !bytes.Equal(bytes.Join(l, nil), b) {
			t.Errorf("P9.3: Cut(% x, 4): % x, %d", b, l, e)
		}
	}
}
