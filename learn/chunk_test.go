package learn_test

import (
	"bytes"
	"slices"
	"strconv"
	"testing"

	"lagoon/api"
	"lagoon/snap"
)

// wide is the image of a tree that does not fit into one Chunk, nor into two; its Last is (2, 150).
func wide() []byte {
	var l []api.Txn
	for i := range uint32(150) {
		l = append(l, at(z(2, 1+i)))
	}
	return snap.Write(treeOf(l))
}

// inPieces are the Chunks of an image, of a size each.
func inPieces(image []byte, size int) []api.Packet {
	var out []api.Packet
	for part := range slices.Chunk(image, size) {
		out = append(out, piece(part))
	}
	out[len(out)-1].Final = true
	return out
}

// TestPieces: an image in one piece and in several, of each size.
func TestPieces(t *testing.T) {
	for _, x := range []api.Zxid{z(0, 0), z(1, 1), z(2, 1), z(2, 2), z(3, 1)} {
		image := imageAt(x)
		for size := 1; size <= len(image)+1; size++ {
			u := follower(t).fit(t, "pieces of "+strconv.Itoa(size), inPieces(image, size)...)
			u.fit(t, "pieces", newLeader(3, x))
			u.brings(t, "pieces of "+strconv.Itoa(size), api.Brought{Epoch: 3, Whole: true, Image: image})
		}
	}
}

// TestWidePieces: up to as many bytes as a Chunk may have.
func TestWidePieces(t *testing.T) {
	image := wide()
	if len(image) <= 2*api.MaxChunk {
		t.Fatalf("the image has %d bytes", len(image))
	}
	for _, size := range []int{64, 1000, 4095, 4096} {
		u := follower(t)
		l := inPieces(image, size)
		u.fit(t, "a wide image", l...).fit(t, "a wide image", diff(z(2, 150), at(z(3, 1))), newLeader(3, z(3, 1)))
		u.brings(t, "a wide image", api.Brought{Epoch: 3, Whole: true, Image: image, Txns: []api.Txn{at(z(3, 1))}})
	}
	follower(t).misfit(t, "a Chunk that is too wide", piece(image[:4097]), final(image))
}

// TestUnequalPieces: they need not be of one size.
func TestUnequalPieces(t *testing.T) {
	image := wide()
	for _, ends := range [][]int{{1}, {4000, 4001}, {7, 4103, 4104, 4110}, {100, 3000, 7000}} {
		u, from := follower(t), 0
		for _, end := range ends {
			u.fit(t, "unequal pieces", piece(image[from:end]))
			from = end
		}
		u.fit(t, "unequal pieces", inPieces(image[from:], 4096)...).fit(t, "unequal pieces", newLeader(3, z(2, 150)))
		u.brings(t, "unequal pieces", api.Brought{Epoch: 3, Whole: true, Image: image})
	}
}

// wrongEnds are final Chunks with which the bytes are no tree, though they may be longer or shorter than the right one, or differ from it in one byte.
func wrongEnds(rest []byte) []api.Packet {
	out := []api.Packet{
		final([]byte{0}), final(slices.Concat(rest, []byte{0})), final(slices.Concat(rest, rest)), final(bytes.Repeat([]byte{255}, 4096)),
		final(imageAt(z(2, 2))), final(imageAt(z(0, 0))),
	}
	for i := range rest {
		turned := slices.Clone(rest)
		turned[i] ^= 1
		out = append(out, final(turned))
		if i > 0 {
			out = append(out, final(rest[:i]), final(rest[i:]))
		}
	}
	return out
}

// TestAnotherFinalMayCome: behind final ones with which the bytes are no tree, and others that do not fit, the right one is taken; pieces that are not final too.
func TestAnotherFinalMayCome(t *testing.T) {
	first, rest := pieces()
	image := imageAt(z(2, 2))
	u := follower(t).fit(t, "two pieces", piece(first))
	for i, bad := range wrongEnds(rest) {
		u.misfit(t, "a wrong end", bad)
		follower(t).fit(t, "two pieces", piece(first)).misfit(t, "a wrong end", bad).fit(t, "behind wrong end "+strconv.Itoa(i), final(rest), newLeader(3, z(2, 2))).
			brings(t, "behind wrong end "+strconv.Itoa(i), api.Brought{Epoch: 3, Whole: true, Image: image})
		follower(t).fit(t, "two pieces", piece(first)).misfit(t, "a wrong end", bad).fit(t, "behind wrong end "+strconv.Itoa(i), piece(rest[:9]), final(rest[9:]), newLeader(3, z(2, 2))).
			brings(t, "behind wrong end "+strconv.Itoa(i), api.Brought{Epoch: 3, Whole: true, Image: image})
	}
	u.fit(t, "behind all wrong ends", final(rest), newLeader(3, z(2, 2)))
	u.brings(t, "behind all wrong ends", api.Brought{Epoch: 3, Whole: true, Image: image})
}

// TestFirstFinalIsNone: nothing has been taken behind it: a Trunc, a Diff, the end may come, and a copy.
func TestFirstFinalIsNone(t *testing.T) {
	image := imageAt(z(2, 2))
	for _, bad := range []api.Packet{final([]byte{1}), final(image[:len(image)-1]), final(slices.Concat(image, image[:1])), final(image[1:])} {
		for _, good := range []api.Packet{trunc(z(1, 3)), diff(z(2, 1), at(z(2, 2))), newLeader(3, z(2, 1)), piece(image[:7]), final(image)} {
			follower(t).misfit(t, "no tree", bad, bad).fit(t, "behind one that is no tree", good)
		}
	}
}

// TestNotFinalIsNotRead: pieces that are a tree's image together are no copy, as long as none of them is final; nor may a final one be empty.
func TestNotFinalIsNotRead(t *testing.T) {
	first, rest := pieces()
	u := follower(t).fit(t, "not final", piece(first), piece(rest))
	u.misfit(t, "not final", final(nil), final([]byte{}), diff(z(2, 2), at(z(3, 1))), diff(z(2, 1), at(z(3, 1))), newLeader(3, z(2, 2)), newLeader(3, z(2, 1)))
	u.misfit(t, "a second image behind the first one", final(imageAt(z(2, 2))))
	u.fit(t, "any bytes more", piece([]byte{1}), piece(first))
}

// TestChunksWithoutEnd: there is no bound to those that are not final, the one of layer 9's Joiner neither.
func TestChunksWithoutEnd(t *testing.T) {
	l := follower(t).Learner
	chunk := piece(bytes.Repeat([]byte{7}, api.MaxChunk))
	for i := range api.MaxRoom/api.MaxChunk + 3 {
		if done, e := l.Take(chunk); done || e != api.OK {
			t.Fatalf("P17.2: chunk %d: %v, %d", i, done, e)
		}
	}
	for _, p := range []api.Packet{final(imageAt(z(2, 2))), trunc(z(1, 3)), diff(z(2, 1), at(z(2, 2))), newLeader(3, z(2, 1))} {
		if done, e := l.Take(p); done || e != api.ErrLearn {
			t.Errorf("P17.2: kind %d behind many Chunks: %v, %d", p.Kind, done, e)
		}
	}
	if l.Last() != z(2, 1) {
		t.Errorf("P17.3: %v", l.Last())
	}
}

// TestBehindTheFinal: no Chunk fits there, whatever its bytes are.
func TestBehindTheFinal(t *testing.T) {
	first, rest := pieces()
	image := imageAt(z(2, 2))
	u := follower(t).fit(t, "a copy", piece(first), final(rest))
	u.misfit(t, "behind a copy", piece(first), final(rest), final(image), piece([]byte{1}), final([]byte{1}), trunc(z(1, 2)), trunc(z(2, 2)))
	u.fit(t, "behind a copy", newLeader(3, z(2, 2)))
	u.brings(t, "behind a copy", api.Brought{Epoch: 3, Whole: true, Image: image})
}

// TestCopyOfAnyLast: a copy may stand below the follower's last, at it, above it, and even above the Learner's epoch.
func TestCopyOfAnyLast(t *testing.T) {
	for _, x := range []api.Zxid{z(0, 0), z(1, 1), z(1, 2), z(1, 4), z(2, 1), z(2, 9), z(3, 7), z(4, 1), z(api.LastEpoch, 1)} {
		u := follower(t).fit(t, "any last", final(imageAt(x)))
		u.misfit(t, "any last", diff(x, at(z(4, 2))), diff(x, at(z(api.LastEpoch, 2))))
		if above(z(3, 8), x) {
			follower(t).fit(t, "any last", final(imageAt(x)), diff(x, at(z(3, 8))), newLeader(3, z(3, 8)))
		}
		u.fit(t, "any last", newLeader(3, x))
		u.brings(t, "any last", api.Brought{Epoch: 3, Whole: true, Image: imageAt(x)})
	}
}
