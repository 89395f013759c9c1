package snap_test

import (
	"bytes"
	"math/rand/v2"
	"strings"
	"testing"

	"lagoon/api"
	"lagoon/snap"
	"lagoon/ztree"
)

func pick[T any](g *rand.Rand, l ...T) T { return l[g.IntN(len(l))] }

// anyRequest is one of those that a tree does, mostly.
func anyRequest(g *rand.Rand, tree *ztree.Tree) api.Request {
	nodes := tree.Nodes()
	p := nodes[g.IntN(len(nodes))].Path
	below := strings.TrimSuffix(p, "/") + pick(g, "/a", "/b", "/c", "/d", "/é-")
	session := int64(0)
	if l := tree.Sessions(); len(l) > 0 {
		session = l[g.IntN(len(l))].Id
	}
	data := bytes.Repeat([]byte{byte(g.IntN(256))}, pick(g, 0, 1, 5, api.MaxData))
	switch n := g.IntN(12); {
	case n == 0:
		return api.Request{Kind: api.Create, Path: below, Data: data, Sequence: g.IntN(2) == 0, Ephemeral: session != 0, Session: session}
	case n == 1:
		return api.Request{Kind: api.Delete, Path: p, Version: -1}
	case n == 2:
		return api.Request{Kind: api.SetData, Path: p, Data: data, Version: -1}
	case n == 3:
		return api.Request{Kind: api.SetAcl, Path: p, Acl: append(world(), widest()[:g.IntN(4)]...), Version: -1}
	case n == 4:
		return api.Request{Kind: api.Open, Timeout: int32(1 + g.IntN(1000))}
	case n == 5 && session != 0:
		return api.Request{Kind: api.Close, Session: session}
	default:
		return api.Request{Kind: api.Create, Path: below, Data: data}
	}
}

// walk gives a tree any transactions, and calls f behind each.
func walk(g *rand.Rand, tree *ztree.Tree, n int, f func()) {
	for range n {
		tree.Apply(api.Txn{Zxid: z(tree.Last().N + 1), Req: anyRequest(g, tree)})
		f()
	}
}

// joinPieces puts bytes together that were cut into pieces of a size.
func joinPieces(t *testing.T, image []byte, size int) []byte {
	t.Helper()
	l, e := snap.Cut(image, size)
	if e != api.OK {
		t.Fatalf("P9.3: Cut with size %d: %d", size, e)
	}
	j := snap.NewJoiner()
	for i, p := range l {
		adds(t, j, p, i == len(l)-1, api.OK)
	}
	whole, is := j.Image()
	if !is {
		t.Fatalf("P9.4: size %d: no image", size)
	}
	return whole
}

// TestThereAndBack: of every tree, its image cut into pieces of any size, joined and read, is a tree that is the same.
func TestThereAndBack(t *testing.T) {
	g := rand.New(rand.NewPCG(9, 1))
	longest := 0
	for range 4 {
		a := ztree.New()
		walk(g, a, 250, func() {
			image := snap.Write(a)
			longest = max(longest, len(image))
			if !bytes.Equal(image, imageOf(told(a))) {
				t.Fatalf("P9.1: % x, not % x", image, imageOf(told(a)))
			}
			u, e := snap.Read(joinPieces(t, image, pick(g, 1+g.IntN(9), 1+g.IntN(api.MaxChunk), api.MaxChunk)))
			if e != api.OK || !ztree.Same(a, u) {
				t.Fatalf("P9.2: there and back: %d", e)
			}
		})
	}
	if longest < 2*api.MaxChunk {
		t.Errorf("the test's own trees: images of at most %d bytes", longest)
	}
}

// TestEverySize: of one image, and of the greatest.
func TestEverySize(t *testing.T) {
	image := imageOf(several())
	for size := 1; size <= api.MaxChunk; size++ {
		if !bytes.Equal(joinPieces(t, image, size), image) {
			t.Fatalf("P9.4: size %d: other bytes", size)
		}
	}
	f := greatest()
	for _, size := range []int{1, 64, api.MaxChunk - 1, api.MaxChunk} {
		if u, e := snap.Read(joinPieces(t, imageOf(f), size)); e != api.OK || !ztree.Same(u, tree(t, f)) {
			t.Errorf("P9.2: the greatest tree by size %d: %d", size, e)
		}
	}
}

// TestOneImage: two trees have one image just if they are the same.
func TestOneImage(t *testing.T) {
	g := rand.New(rand.NewPCG(9, 2))
	a, b := ztree.New(), ztree.New()
	trees := []*ztree.Tree{ztree.New(), ztree.New(), tree(t, several()), tree(t, several())}
	for _, c := range edges() {
		f := facts{nodes: []api.Node{plain("/"), plain("/a")}}
		c.turn(&f)
		trees = append(trees, tree(t, f))
	}
	walk(g, a, 25, func() { trees = append(trees, a.Twin(), a.Twin()) })
	walk(g, b, 25, func() { trees = append(trees, b.Twin()) })
	same := 0
	for i, one := range trees {
		for _, two := range trees[:i] {
			if bytes.Equal(snap.Write(one), snap.Write(two)) != ztree.Same(one, two) {
				t.Fatalf("P9.1: one image, or the same: not both, of %+v and %+v", told(one), told(two))
			}
			if ztree.Same(one, two) {
				same++
			}
		}
	}
	if same < 25 {
		t.Errorf("the test's own trees: only %d were the same", same)
	}
}

// TestSpoilt: an image in which one byte is another one, a beginning of it, and it with bytes more behind it, is none.
func TestSpoilt(t *testing.T) {
	g := rand.New(rand.NewPCG(9, 3))
	a := ztree.New()
	walk(g, a, 60, func() {
		image := snap.Write(a)
		for range 20 {
			at, by := g.IntN(len(image)), byte(1+g.IntN(255))
			image[at] ^= by
			refuses(t, "one byte turned", image)
			image[at] ^= by
			refuses(t, "a beginning", image[:at])
			refuses(t, "bytes more", append(bytes.Clone(image), image[:at+1]...))
		}
	})
}

// TestBytesThatAreRead: Write of the tree gives just them. Several bytes are turned, and the sum made right.
func TestBytesThatAreRead(t *testing.T) {
	g := rand.New(rand.NewPCG(9, 4))
	a := ztree.New()
	read := 0
	walk(g, a, 60, func() {
		body := bodyOf(told(a))
		for range 100 {
			b := bytes.Clone(body)
			for range 1 + g.IntN(3) {
				b[g.IntN(len(b))] ^= byte(1 << g.IntN(8))
			}
			u, e := snap.Read(summed(b))
			if e == api.OK {
				read++
			}
			if e == api.OK && !bytes.Equal(snap.Write(u), summed(b)) || e != api.OK && (e != api.ErrSnap || u != nil) {
				t.Fatalf("P9.2: % x: %d", summed(b), e)
			}
		}
	})
	if read < 500 {
		t.Errorf("the test's own bytes: only %d were read", read)
	}
}
