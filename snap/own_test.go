package snap_test

import (
	"bytes"
	"slices"
	"testing"

	"lagoon/api"
	"lagoon/snap"
	"lagoon/ztree"
)

// roomy is bytes with spare room behind them that is filled.
func roomy(b []byte) []byte {
	return append(slices.Clone(b), bytes.Repeat([]byte{0xEE}, 32)...)[: len(b) : len(b)+32]
}

// sameRoom compares bytes to the ends of their spare room.
func sameRoom(a, b []byte) bool {
	return len(a) == len(b) && bytes.Equal(a[:cap(a)], b[:cap(b)])
}

// spoil writes over bytes and their spare room.
func spoil(b []byte) {
	for i := range b[:cap(b)] {
		b[:cap(b)][i] = 0xDD
	}
}

// TestHandedInStays: bytes, their spare room too.
func TestHandedInStays(t *testing.T) {
	for _, b := range [][]byte{imageOf(several()), imageOf(several())[:9], {1, 2, 3}, {}} {
		in := roomy(b)
		snap.Read(in)
		snap.Cut(in, 2)
		snap.Cut(in, 0)
		snap.Cut(in, api.MaxChunk)
		j := snap.NewJoiner()
		j.Add(in, false)
		j.Add(in, true)
		j.Add(in, true)
		j.Image()
		if !sameRoom(in, roomy(b)) {
			t.Errorf("R5: what was handed in is another one: % x", in[:cap(in)])
		}
	}
}

// TestSpareRoomIsNotInIt: bytes end where they end.
func TestSpareRoomIsNotInIt(t *testing.T) {
	in := roomy(imageOf(several()))
	if u, e := snap.Read(in); e != api.OK || !ztree.Same(u, tree(t, several())) {
		t.Errorf("P9.2: with spare room: %d", e)
	}
	l, _ := snap.Cut(in, 50)
	if !bytes.Equal(bytes.Join(l, nil), in) {
		t.Errorf("P9.3: with spare room: % x", l)
	}
	j := snap.NewJoiner()
	adds(t, j, in, false, api.OK)
	adds(t, j, in[:1], true, api.OK)
	joined(t, j, append(slices.Clone(in), in[0]), true)
}

// TestReadKeepsNothing: a tree is its own, whatever becomes of the bytes.
func TestReadKeepsNothing(t *testing.T) {
	in := roomy(imageOf(several()))
	u, e := snap.Read(in)
	spoil(in)
	if e != api.OK || !ztree.Same(u, tree(t, several())) {
		t.Errorf("R5: Read keeps the bytes: %d", e)
	}
}

// TestWriteIsNew: two images of one tree share nothing, nor does the tree with them.
func TestWriteIsNew(t *testing.T) {
	a := tree(t, several())
	first, second := snap.Write(a), snap.Write(a)
	spoil(first)
	if !bytes.Equal(second, imageOf(several())) || !bytes.Equal(snap.Write(a), second) || !ztree.Same(a, tree(t, several())) {
		t.Errorf("R5: an image is shared")
	}
}

// TestPiecesAreNew: neither the bytes nor another piece is in a piece, or in its spare room.
func TestPiecesAreNew(t *testing.T) {
	for _, size := range []int{1, 2, 3, 5, 8, 64} {
		in := roomy(counting(8))
		l, _ := snap.Cut(in, size)
		again, _ := snap.Cut(in, size)
		spoil(in)
		if !bytes.Equal(bytes.Join(l, nil), counting(8)) {
			t.Errorf("R5: Cut with size %d keeps the bytes", size)
		}
		in = roomy(counting(8))
		whole := slices.Clone(l)
		for i, p := range whole {
			_ = append(p, 0xAA, 0xAA, 0xAA)
			spoil(p)
			rest := counting(8)[min((i+1)*size, 8):]
			if !bytes.Equal(bytes.Join(whole[i+1:], nil), rest) {
				t.Errorf("R5: piece %d of size %d grows into the next one", i, size)
			}
		}
		if !bytes.Equal(bytes.Join(again, nil), counting(8)) || !sameRoom(in, roomy(counting(8))) {
			t.Errorf("R5: pieces of size %d are shared", size)
		}
	}
}

// TestPieceIsItsOwn: written over from the last to the first, too, no piece is changed by the ones behind it.
func TestPieceIsItsOwn(t *testing.T) {
	l, _ := snap.Cut(counting(11), 3)
	for i := len(l) - 1; i >= 0; i-- {
		if !bytes.Equal(l[i], counting(11)[i*3:min(i*3+3, 11)]) {
			t.Errorf("R5: piece %d is % x", i, l[i])
		}
		spoil(l[i])
	}
}

// TestListOfPiecesIsNew: its spare room is not another answer's.
func TestListOfPiecesIsNew(t *testing.T) {
	in := counting(11)
	a, _ := snap.Cut(in, 2)
	b, _ := snap.Cut(in, 2)
	for i := range a[:cap(a)] {
		a[:cap(a)][i] = nil
	}
	if !bytes.Equal(bytes.Join(b, nil), in) {
		t.Errorf("R5: two lists of pieces are shared")
	}
}

// TestJoinerKeepsNothing: what becomes of a piece later is nothing to the image.
func TestJoinerKeepsNothing(t *testing.T) {
	j := snap.NewJoiner()
	for _, final := range []bool{false, false, true} {
		piece := roomy(counting(5))
		adds(t, j, piece, final, api.OK)
		if !sameRoom(piece, roomy(counting(5))) {
			t.Errorf("R5: Add changed the piece: % x", piece[:cap(piece)])
		}
		spoil(piece)
	}
	joined(t, j, bytes.Repeat(counting(5), 3), true)
}

// TestImageIsNew: two answers share nothing, nor does the Joiner with them.
func TestImageIsNew(t *testing.T) {
	j := snap.NewJoiner()
	adds(t, j, counting(5), false, api.OK)
	adds(t, j, counting(4), true, api.OK)
	want := append(counting(5), counting(4)...)
	first, _ := j.Image()
	second, _ := j.Image()
	spoil(first)
	if !bytes.Equal(second, want) {
		t.Errorf("R5: two images of a Joiner are shared: % x", second)
	}
	_ = append(second, 7)
	joined(t, j, want, true)
}
