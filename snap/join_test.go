package snap_test

import (
	"bytes"
	"testing"

	"lagoon/api"
	"lagoon/snap"
)

// adds gives a Joiner a piece, and looks at its answer.
func adds(t *testing.T, j *snap.Joiner, piece []byte, final bool, want api.Errno) {
	t.Helper()
	if e := j.Add(piece, final); e != want {
		t.Errorf("P9.4: Add(%d bytes, %t): %d, not %d", len(piece), final, e, want)
	}
}

// joined looks at what a Joiner has.
func joined(t *testing.T, j *snap.Joiner, want []byte, whole bool) {
	t.Helper()
	if b, is := j.Image(); is != whole || !bytes.Equal(b, want) {
		t.Errorf("P9.4: Image: %d bytes, %t, not %d, %t", len(b), is, len(want), whole)
	}
}

func TestThirdExample(t *testing.T) {
	j := snap.NewJoiner()
	joined(t, j, nil, false)
	adds(t, j, []byte{1, 2}, false, api.OK)
	joined(t, j, nil, false)
	adds(t, j, []byte{3}, true, api.OK)
	joined(t, j, []byte{1, 2, 3}, true)
	adds(t, j, []byte{4}, true, api.ErrSnap)
	joined(t, j, []byte{1, 2, 3}, true)
	adds(t, snap.NewJoiner(), nil, false, api.ErrSnap)
	adds(t, snap.NewJoiner(), make([]byte, 4097), false, api.ErrSnap)
}

// TestPieces: of 1 and of MaxChunk bytes; of none and one more nothing changes, not even by final.
func TestPieces(t *testing.T) {
	for _, final := range []bool{false, true} {
		j := snap.NewJoiner()
		var want []byte
		for _, n := range []int{1, api.MaxChunk, 2, api.MaxChunk - 1, api.MaxChunk} {
			for _, bad := range [][]byte{nil, {}, make([]byte, api.MaxChunk+1), make([]byte, api.MaxRoom)} {
				adds(t, j, bad, final, api.ErrSnap)
				joined(t, j, nil, false)
			}
			adds(t, j, counting(n), false, api.OK)
			want = append(want, counting(n)...)
			joined(t, j, nil, false)
		}
		adds(t, j, []byte{9}, true, api.OK)
		joined(t, j, append(want, 9), true)
	}
}

// TestOnePiece: a final piece may be the first one, of any size that a piece may have.
func TestOnePiece(t *testing.T) {
	for _, n := range []int{1, 2, api.MaxChunk - 1, api.MaxChunk} {
		j := snap.NewJoiner()
		adds(t, j, counting(n), true, api.OK)
		joined(t, j, counting(n), true)
	}
}

// TestBehindTheFinal: nothing is taken, whatever it is, and the image stays.
func TestBehindTheFinal(t *testing.T) {
	j := snap.NewJoiner()
	adds(t, j, []byte{1, 2}, true, api.OK)
	for range 2 {
		for _, final := range []bool{false, true} {
			for _, piece := range [][]byte{nil, {3}, {1, 2}, make([]byte, api.MaxChunk), make([]byte, api.MaxChunk+1)} {
				adds(t, j, piece, final, api.ErrSnap)
				joined(t, j, []byte{1, 2}, true)
			}
		}
	}
}

// TestRoom: up to MaxRoom bytes, and not one more; a piece that fits is taken behind one that did not.
func TestRoom(t *testing.T) {
	chunk := counting(api.MaxChunk)
	whole := bytes.Repeat(chunk, api.MaxRoom/api.MaxChunk)
	j := snap.NewJoiner()
	for range api.MaxRoom/api.MaxChunk - 1 {
		adds(t, j, chunk, false, api.OK)
	}
	adds(t, j, chunk[:api.MaxChunk-1], false, api.OK)
	joined(t, j, nil, false)
	for _, n := range []int{2, 3, api.MaxChunk} {
		adds(t, j, chunk[:n], false, api.ErrSnap)
		adds(t, j, chunk[:n], true, api.ErrSnap)
		joined(t, j, nil, false)
	}
	adds(t, j, chunk[api.MaxChunk-1:], true, api.OK)
	joined(t, j, whole, true)
	adds(t, j, chunk[:1], true, api.ErrSnap)

	full := snap.NewJoiner()
	for range api.MaxRoom / api.MaxChunk {
		adds(t, full, chunk, false, api.OK)
	}
	adds(t, full, chunk[:1], true, api.ErrSnap)
	adds(t, full, chunk[:1], false, api.ErrSnap)
	joined(t, full, nil, false)
}

// TestNoJoiner: a nil one, and one that NewJoiner did not make: ErrArg, ahead of all else.
func TestNoJoiner(t *testing.T) {
	for name, j := range map[string]*snap.Joiner{"nil": nil, "plain": {}} {
		for _, piece := range [][]byte{nil, {1}, make([]byte, api.MaxChunk), make([]byte, api.MaxChunk+1)} {
			for _, final := range []bool{false, true} {
				if e := j.Add(piece, final); e != api.ErrArg {
					t.Errorf("R3: Add(%d bytes, %t) of a %s Joiner: %d", len(piece), final, name, e)
				}
				if b, is := j.Image(); is || len(b) != 0 {
					t.Errorf("R3: Image of a %s Joiner: % x, %t", name, b, is)
				}
			}
		}
	}
}

// TestTwoJoiners: they know nothing of each other.
func TestTwoJoiners(t *testing.T) {
	a, b := snap.NewJoiner(), snap.NewJoiner()
	adds(t, a, []byte{1}, false, api.OK)
	adds(t, b, []byte{2}, true, api.OK)
	joined(t, a, nil, false)
	adds(t, a, []byte{3}, true, api.OK)
	joined(t, a, []byte{1, 3}, true)
	joined(t, b, []byte{2}, true)
}
