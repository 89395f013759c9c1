package digest_test

import (
	"bytes"
	"encoding/hex"
	"math"
	"math/rand/v2"
	"slices"
	"strings"
	"testing"

	"lagoon/api"
	"lagoon/digest"
)

// TestZeroes: the first example, with the numbers themselves.
func TestZeroes(t *testing.T) {
	looks(t, "the zero Node", api.Node{}, append([]byte{1}, make([]byte, 60)...))
	if h := digest.Node(api.Node{}); h != 0xB2A4ECB8BCE6856C {
		t.Errorf("P8.1: the zero Node: %X", h)
	}
	if h := digest.Session(api.Session{}); h != number(append([]byte{2}, make([]byte, 12)...)) || h != 0x9C78CC93FBAF92B5 {
		t.Errorf("P8.1: the zero Session: %X", h)
	}
}

// TestWholeNode: all fields, one behind the other, byte by byte.
func TestWholeNode(t *testing.T) {
	b, e := hex.DecodeString(strings.Join(strings.Fields(`
		01  00000003 2f6162  00000003 0700ff
		00000002  1f 00000004 6e616d65 00000003 616e6e  fe 00000002 6970 00000008 31302e312e322e33
		00000001 00000002  00000003 00000004  00000005 00000006
		00000008 00000009 0000000a  000000000000000b  0000000e`), ""))
	if e != nil || !bytes.Equal(b, nodeBytes(whole())) {
		t.Fatalf("the test's own bytes: % x, %v", b, e)
	}
	looks(t, "a whole one", whole(), b)
}

// field is one of a fixed number of bytes: where it stands in the zero node's bytes, and how it is set.
type field[T any] struct {
	what string
	at   int
	set  func(n *api.Node, v T)
}

// edge is a number, and its bytes.
type edge[T any] struct {
	v T
	b []byte
}

// looksAt sets each field of the zero node to each number.
func looksAt[T any](t *testing.T, fields []field[T], edges []edge[T]) {
	for _, f := range fields {
		for _, e := range edges {
			var n api.Node
			f.set(&n, e.v)
			b := append([]byte{1}, make([]byte, 60)...)
			copy(b[f.at:], e.b)
			looks(t, f.what, n, b)
		}
	}
}

// TestFields: each field of a fixed number of bytes at its least, its greatest, and between.
func TestFields(t *testing.T) {
	looksAt(t, []field[uint32]{
		{"Made's epoch", 13, func(n *api.Node, v uint32) { n.Stat.Made.Epoch = v }},
		{"Made's counter", 17, func(n *api.Node, v uint32) { n.Stat.Made.N = v }},
		{"Changed's epoch", 21, func(n *api.Node, v uint32) { n.Stat.Changed.Epoch = v }},
		{"Changed's counter", 25, func(n *api.Node, v uint32) { n.Stat.Changed.N = v }},
		{"Childs' epoch", 29, func(n *api.Node, v uint32) { n.Stat.Childs.Epoch = v }},
		{"Childs' counter", 33, func(n *api.Node, v uint32) { n.Stat.Childs.N = v }},
	}, []edge[uint32]{
		{0, []byte{0, 0, 0, 0}}, {1, []byte{0, 0, 0, 1}}, {0x01020384, []byte{1, 2, 3, 0x84}},
		{api.LastEpoch, []byte{0x7F, 255, 255, 255}}, {api.LastEpoch + 1, []byte{0x80, 0, 0, 0}},
		{api.LastCounter, []byte{255, 255, 255, 255}},
	})
	looksAt(t, []field[int32]{
		{"Version", 37, func(n *api.Node, v int32) { n.Stat.Version = v }},
		{"Cversion", 41, func(n *api.Node, v int32) { n.Stat.Cversion = v }},
		{"Aversion", 45, func(n *api.Node, v int32) { n.Stat.Aversion = v }},
		{"Next", 57, func(n *api.Node, v int32) { n.Next = v }},
	}, []edge[int32]{
		{0, []byte{0, 0, 0, 0}}, {1, []byte{0, 0, 0, 1}}, {0x01020384, []byte{1, 2, 3, 0x84}},
		{-1, []byte{255, 255, 255, 255}}, {-2, []byte{255, 255, 255, 254}}, {-1000, []byte{255, 255, 0xFC, 0x18}},
		{math.MaxInt32, []byte{0x7F, 255, 255, 255}}, {math.MinInt32, []byte{0x80, 0, 0, 0}},
	})
	looksAt(t, []field[int64]{{"Owner", 49, func(n *api.Node, v int64) { n.Stat.Owner = v }}}, []edge[int64]{
		{1<<32 + 1, []byte{0, 0, 0, 1, 0, 0, 0, 1}}, {0x0102030405060784, []byte{1, 2, 3, 4, 5, 6, 7, 0x84}},
		{-1, bytes.Repeat([]byte{255}, 8)}, {-256, []byte{255, 255, 255, 255, 255, 255, 255, 0}},
		{math.MaxInt64, []byte{0x7F, 255, 255, 255, 255, 255, 255, 255}}, {math.MinInt64, []byte{0x80, 0, 0, 0, 0, 0, 0, 0}},
	})
}

// TestSizeAndCount are not among a node's bytes, whatever they are.
func TestSizeAndCount(t *testing.T) {
	for _, n := range []api.Node{{}, whole()} {
		want := digest.Node(n)
		for _, v := range []int{0, 1, -1, 3, api.MaxData, math.MaxInt, math.MinInt} {
			for _, w := range []int{0, 2, -1, api.MaxNodes, math.MaxInt, math.MinInt} {
				n.Stat.Size, n.Stat.Count = v, w
				if digest.Node(n) != want {
					t.Errorf("P8.1: Node with Size %d and Count %d: another number", v, w)
				}
			}
		}
	}
}

// TestTexts: paths and data of all lengths to beyond the limits, and of bytes that are no letters.
func TestTexts(t *testing.T) {
	texts := []string{"/", "no path", "//", "/a/", "\x00", "\xff\xfe", "\x80/\x00", "ä", "\n", strings.Repeat("x", 255), strings.Repeat("/y", 128), strings.Repeat("\xff", 70000)}
	for n := range api.MaxData + 2 {
		texts = append(texts, strings.Repeat("\x9c", n))
	}
	for _, s := range texts {
		rest := make([]byte, 48)
		b := slices.Concat([]byte{1}, laid(s), make([]byte, 8), rest)
		looks(t, "a path", api.Node{Path: s}, b)
		b = slices.Concat([]byte{1, 0, 0, 0, 0}, laid(s), make([]byte, 4), rest)
		looks(t, "data", api.Node{Data: []byte(s)}, b)
		b = slices.Concat([]byte{1}, make([]byte, 8), []byte{0, 0, 0, 1, 0}, laid(s), make([]byte, 4), rest)
		looks(t, "a scheme", api.Node{Acl: []api.Entry{{Who: api.Id{Scheme: s}}}}, b)
		b = slices.Concat([]byte{1}, make([]byte, 8), []byte{0, 0, 0, 1, 0, 0, 0, 0, 0}, laid(s), rest)
		looks(t, "a name", api.Node{Acl: []api.Entry{{Who: api.Id{Name: s}}}}, b)
	}
	if len(laid(texts[11])) != 70004 || !bytes.Equal(laid(texts[11])[:5], []byte{0, 1, 0x11, 0x70, 255}) {
		t.Errorf("the test's own bytes")
	}
}

// TestNilAndEmpty: lists without elements are the same, with spare room or without.
func TestNilAndEmpty(t *testing.T) {
	for _, n := range []api.Node{{}, whole()} {
		n.Data, n.Acl = nil, nil
		want := number(nodeBytes(n))
		for _, data := range [][]byte{nil, {}, make([]byte, 0, 9), []byte("x")[:0]} {
			for _, l := range [][]api.Entry{nil, {}, make([]api.Entry, 0, 9), whole().Acl[:0]} {
				n.Data, n.Acl = data, l
				if digest.Node(n) != want {
					t.Errorf("R4: Node without data and entries: %X, not %X", digest.Node(n), want)
				}
			}
		}
	}
}

// TestEntries: of none to more than may be, each with all permissions that an int8 can be.
func TestEntries(t *testing.T) {
	for perms := math.MinInt8; perms <= math.MaxInt8; perms++ {
		n := api.Node{Acl: []api.Entry{{Perms: int8(perms), Who: api.Id{Scheme: "s", Name: "nn"}}}}
		b := slices.Concat([]byte{1}, make([]byte, 8), []byte{0, 0, 0, 1, byte(perms), 0, 0, 0, 1, 's', 0, 0, 0, 2, 'n', 'n'}, make([]byte, 48))
		looks(t, "permissions", n, b)
	}
	for _, many := range []int{0, 1, 2, api.MaxAcl, api.MaxAcl + 1, 300} {
		n := whole()
		n.Acl = nil
		for i := range many {
			n.Acl = append(n.Acl, api.Entry{Perms: int8(i), Who: api.Id{Scheme: strings.Repeat("s", i%3), Name: strings.Repeat("n", i%5)}})
		}
		looks(t, "entries", n, nodeBytes(n))
		if many > 1 {
			l := slices.Clone(n.Acl)
			slices.Reverse(l)
			other := n
			other.Acl = l
			looks(t, "entries in another order", other, nodeBytes(other))
			if digest.Node(other) == digest.Node(n) {
				t.Errorf("P8.1: the order of %d entries makes no difference", many)
			}
		}
	}
}

// TestBorders: what goes from one field to the next makes another number.
func TestBorders(t *testing.T) {
	seen := map[uint64]int{}
	for i, n := range []api.Node{
		{},
		{Path: "ab"}, {Data: []byte("ab")}, {Path: "a", Data: []byte("b")},
		{Path: "\x00\x00\x00\x00"}, {Data: []byte{0, 0, 0, 0}},
		{Acl: []api.Entry{{}}},
		{Acl: []api.Entry{{Who: api.Id{Scheme: "ab"}}}}, {Acl: []api.Entry{{Who: api.Id{Name: "ab"}}}}, {Acl: []api.Entry{{Who: api.Id{Scheme: "a", Name: "b"}}}},
		{Stat: api.Stat{Version: 1}}, {Stat: api.Stat{Cversion: 1}}, {Stat: api.Stat{Aversion: 1}}, {Stat: api.Stat{Owner: 1}}, {Next: 1},
	} {
		h := digest.Node(n)
		if seen[h] > 0 {
			t.Errorf("P8.1: nodes %d and %d have one number", i, seen[h]-1)
		}
		seen[h] = i + 1
	}
}

// TestSession: each of its two fields at its edges, alone and with the other.
func TestSession(t *testing.T) {
	ids := []edge[int64]{
		{0, make([]byte, 8)}, {1, []byte{0, 0, 0, 0, 0, 0, 0, 1}}, {1<<32 + 1, []byte{0, 0, 0, 1, 0, 0, 0, 1}},
		{-1, bytes.Repeat([]byte{255}, 8)}, {-2, []byte{255, 255, 255, 255, 255, 255, 255, 254}},
		{math.MaxInt64, []byte{0x7F, 255, 255, 255, 255, 255, 255, 255}}, {math.MinInt64, []byte{0x80, 0, 0, 0, 0, 0, 0, 0}},
	}
	times := []edge[int32]{
		{0, make([]byte, 4)}, {1, []byte{0, 0, 0, 1}}, {api.MaxTimeout, []byte{0, 0, 3, 0xE8}}, {api.MaxTimeout + 1, []byte{0, 0, 3, 0xE9}},
		{-1, []byte{255, 255, 255, 255}}, {math.MaxInt32, []byte{0x7F, 255, 255, 255}}, {math.MinInt32, []byte{0x80, 0, 0, 0}},
	}
	for _, id := range ids {
		for _, time := range times {
			s := api.Session{Id: id.v, Timeout: time.v}
			b := slices.Concat([]byte{2}, id.b, time.b)
			if got := digest.Session(s); got != number(b) {
				t.Errorf("P8.1: Session(%v): %X, not the number of % x", s, got, b)
			}
		}
	}
}

func anyText(g *rand.Rand) string {
	b := make([]byte, g.IntN(8))
	for i := range b {
		b[i] = byte(g.Uint32())
	}
	return string(b)
}

func anyZxid(g *rand.Rand) api.Zxid { return api.Zxid{Epoch: g.Uint32(), N: g.Uint32()} }

// anyNode has anything in its fields.
func anyNode(g *rand.Rand) api.Node {
	var l []api.Entry
	for range g.IntN(5) {
		l = append(l, api.Entry{Perms: int8(g.Uint32()), Who: api.Id{Scheme: anyText(g), Name: anyText(g)}})
	}
	return api.Node{
		Path: anyText(g), Data: []byte(anyText(g)), Acl: l,
		Stat: api.Stat{
			Made: anyZxid(g), Changed: anyZxid(g), Childs: anyZxid(g),
			Version: int32(g.Uint32()), Cversion: int32(g.Uint32()), Aversion: int32(g.Uint32()),
			Owner: int64(g.Uint64()), Size: int(g.Uint64()), Count: int(g.Uint64()),
		},
		Next: int32(g.Uint32()),
	}
}

// TestAnyNode: whatever the fields are.
func TestAnyNode(t *testing.T) {
	g := rand.New(rand.NewPCG(8, 1))
	for range 5000 {
		n := anyNode(g)
		looks(t, "any", n, nodeBytes(n))
		s := api.Session{Id: int64(g.Uint64()), Timeout: int32(g.Uint32())}
		if digest.Session(s) != number(sessionBytes(s)) {
			t.Errorf("P8.1: Session(%v)", s)
		}
	}
}
