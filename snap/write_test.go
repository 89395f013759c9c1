package snap_test

import (
	"bytes"
	"fmt"
	"math"
	"slices"
	"strings"
	"testing"

	"lagoon/api"
	"lagoon/snap"
	"lagoon/ztree"
)

// newBody is the image of a new tree ahead of its sum, as the first example has it.
func newBody() []byte {
	b := []byte{0x4C, 0x47, 0x53, 0x4E, 0, 0, 0, 0, 0, 0, 0, 0}
	b = append(b, 0, 0, 0, 0)
	b = append(b, 0, 0, 0, 1, 0, 0, 0, 1, 0x2F, 0, 0, 0, 0)
	b = append(b, 0, 0, 0, 1, 0x1F, 0, 0, 0, 5, 'w', 'o', 'r', 'l', 'd', 0, 0, 0, 6, 'a', 'n', 'y', 'o', 'n', 'e')
	return append(b, make([]byte, 3*8+3*4+8+4)...)
}

// TestFirstExample: the image of a new tree, byte by byte; its sum is written out, too.
func TestFirstExample(t *testing.T) {
	want := append(newBody(), 0x98, 0x5E, 0x06, 0x43)
	if len(want) != 105 || !bytes.Equal(want, summed(newBody())) {
		t.Fatalf("the test's own bytes: %d, % x", len(want), summed(newBody())[101:])
	}
	takes(t, "a new tree", want, ztree.New())
}

// TestTheWholesSixthExample: of DOC.md: the tree of /a alone has 187 bytes.
func TestTheWholesSixthExample(t *testing.T) {
	a := ztree.New()
	does(t, a, api.Request{Kind: api.Create, Path: "/a"})
	if b := snap.Write(a); len(b) != 187 {
		t.Errorf("P9.1: %d bytes, not 187", len(b))
	}
	takes(t, "of /a", imageOf(told(a)), a)
}

// TestSeveral: sessions and nodes, each field with a number of its own.
func TestSeveral(t *testing.T) {
	takes(t, "several nodes", imageOf(several()), tree(t, several()))
}

// TestByHand: a small tree with a session and a child, each byte written out.
func TestByHand(t *testing.T) {
	b := []byte("LGSN")
	b = append(b, 0, 0, 0, 2, 0, 0, 0, 3)                                        // Last
	b = append(b, 0, 0, 0, 1, 0, 0, 0, 1, 0, 0, 0, 9, 0, 0, 3, 0xE8)             // one session, 1.9, 1000
	b = append(b, 0, 0, 0, 2, 0, 0, 0, 1, '/', 0, 0, 0, 0, 0, 0, 0, 1)           // two nodes; the root's path, no data, one entry
	b = append(b, 1, 0, 0, 0, 4, 'n', 'a', 'm', 'e', 0, 0, 0, 1, 'x')            // its entry
	b = append(b, make([]byte, 16)...)                                           // Made, Changed
	b = append(b, 0, 0, 0, 2, 0, 0, 0, 3)                                        // Childs
	b = append(b, 0, 0, 0, 0, 0, 0, 0, 5, 0, 0, 0, 0)                            // versions
	b = append(b, 0, 0, 0, 0, 0, 0, 0, 0, 0xFF, 0xFF, 0xFF, 0xFE)                // Owner, Next
	b = append(b, 0, 0, 0, 3, '/', 0xC3, 0xA9, 0, 0, 0, 2, 0xFF, 0)              // the child's path and data
	b = append(b, 0, 0, 0, 2)                                                    // two entries
	b = append(b, 30, 0, 0, 0, 4, 'n', 'a', 'm', 'e', 0, 0, 0, 1, 'y')           // the first
	b = append(b, 31, 0, 0, 0, 4, 'n', 'a', 'm', 'e', 0, 0, 0, 1, 'x')           // the second
	b = append(b, 0, 0, 0, 1, 0, 0, 0, 7, 0, 0, 0, 1, 0, 0, 0, 8)                // Made, Changed
	b = append(b, 0, 0, 0, 2, 0, 0, 0, 1)                                        // Childs
	b = append(b, 0x80, 0, 0, 0, 0x7F, 0xFF, 0xFF, 0xFF, 0xFF, 0xFF, 0xFF, 0xFD) // versions
	b = append(b, 0, 0, 0, 1, 0, 0, 0, 9, 1, 2, 3, 4)                            // Owner, Next
	name := func(perms int8, name string) api.Entry {
		return api.Entry{Perms: perms, Who: api.Id{Scheme: "name", Name: name}}
	}
	last := api.Zxid{Epoch: 2, N: 3}
	want := tree(t, facts{last, []api.Session{{Id: id(9), Timeout: 1000}}, []api.Node{
		{Path: "/", Acl: []api.Entry{name(1, "x")}, Stat: api.Stat{Childs: last, Cversion: 5}, Next: -2},
		{
			Path: "/é", Data: []byte{255, 0}, Acl: []api.Entry{name(30, "y"), name(31, "x")},
			Stat: api.Stat{
				Made: z(7), Changed: z(8), Childs: api.Zxid{Epoch: 2, N: 1},
				Version: math.MinInt32, Cversion: math.MaxInt32, Aversion: -3, Owner: id(9),
			},
			Next: 0x01020304,
		},
	}})
	takes(t, "by hand", summed(b), want)
}

// edge is a change of one field to its least or its greatest number.
type edge struct {
	what string
	turn func(f *facts)
}

// edges: the second node is the one whose fields are turned; each zxid may be as high as Last.
func edges() []edge {
	top := api.Zxid{Epoch: api.LastEpoch, N: math.MaxUint32}
	low := api.Zxid{Epoch: 1, N: 1}
	out := []edge{
		{"Last zero", func(f *facts) { f.last = api.Zxid{} }},
		{"Last least", func(f *facts) { f.last = low }},
		{"Last greatest", func(f *facts) { f.last = top }},
		{"a session greatest", func(f *facts) { f.last, f.sessions = top, []api.Session{{Id: math.MaxInt64, Timeout: 1000}} }},
		{"a session least", func(f *facts) { f.last, f.sessions = low, []api.Session{{Id: id(1), Timeout: 1}} }},
		{"Owner greatest", func(f *facts) {
			f.last, f.sessions = top, []api.Session{{Id: math.MaxInt64, Timeout: 1}}
			f.nodes[1].Stat.Owner = math.MaxInt64
		}},
		{"Data none", func(f *facts) { f.nodes[1].Data = nil }},
		{"Data empty", func(f *facts) { f.nodes[1].Data = []byte{} }},
		{"Data of one byte", func(f *facts) { f.nodes[1].Data = []byte{0} }},
		{"Data greatest", func(f *facts) { f.nodes[1].Data = bytes.Repeat([]byte{255}, api.MaxData) }},
		{"a path greatest", func(f *facts) { f.nodes = longest() }},
		{"entries greatest", func(f *facts) { f.nodes[1].Acl = widest() }},
		{"an entry least", func(f *facts) { f.nodes[1].Acl = []api.Entry{{Perms: 1, Who: api.Id{Scheme: "name", Name: "-"}}} }},
	}
	for name, field := range map[string]func(s *api.Stat) *api.Zxid{
		"Made":    func(s *api.Stat) *api.Zxid { return &s.Made },
		"Changed": func(s *api.Stat) *api.Zxid { return &s.Changed },
		"Childs":  func(s *api.Stat) *api.Zxid { return &s.Childs },
	} {
		out = append(out,
			edge{name + " least", func(f *facts) { f.last = top; *field(&f.nodes[1].Stat) = low }},
			edge{name + " greatest", func(f *facts) { f.last = top; *field(&f.nodes[1].Stat) = top }})
	}
	for _, v := range []int32{math.MinInt32, -1, 1, 0x01020304, math.MaxInt32} {
		out = append(out,
			edge{fmt.Sprint("Version ", v), func(f *facts) { f.nodes[1].Stat.Version = v }},
			edge{fmt.Sprint("Cversion ", v), func(f *facts) { f.nodes[1].Stat.Cversion = v }},
			edge{fmt.Sprint("Aversion ", v), func(f *facts) { f.nodes[1].Stat.Aversion = v }},
			edge{fmt.Sprint("Next ", v), func(f *facts) { f.nodes[1].Next = v }},
			edge{fmt.Sprint("the root's Next ", v), func(f *facts) { f.nodes[0].Next = v }})
	}
	return out
}

// longest is nodes down to a path of MaxPath bytes.
func longest() []api.Node {
	a, b, c := "/"+strings.Repeat("a", 24), "/"+strings.Repeat("b", 24), "/"+strings.Repeat("c", 13)
	return []api.Node{plain("/"), plain(a), plain(a + b), plain(a + b + c)}
}

// widest is entries that have as many bytes as they can.
func widest() []api.Entry {
	var l []api.Entry
	for i := range api.MaxAcl {
		l = append(l, api.Entry{Perms: int8(api.PermAll) - int8(i), Who: api.Id{Scheme: "name", Name: strings.Repeat(string(rune('a'+i)), api.MaxId)}})
	}
	return l
}

func TestEdges(t *testing.T) {
	for _, c := range edges() {
		f := facts{nodes: []api.Node{plain("/"), plain("/a")}}
		c.turn(&f)
		takes(t, c.what, imageOf(f), tree(t, f))
	}
}

// greatest is what the tree with the longest image is made of.
func greatest() facts {
	f := facts{last: z(100), nodes: []api.Node{plain("/")}}
	for i := range api.MaxSessions {
		f.sessions = append(f.sessions, api.Session{Id: id(uint32(i + 1)), Timeout: 7})
	}
	a, b := "/"+strings.Repeat("a", 24), "/"+strings.Repeat("b", 24)
	f.nodes = append(f.nodes, plain(a), plain(a+b))
	for i := range api.MaxNodes - 3 {
		f.nodes = append(f.nodes, plain(fmt.Sprintf("%s%s/c%012d", a, b, i)))
	}
	for i := range f.nodes {
		f.nodes[i].Data, f.nodes[i].Acl = bytes.Repeat([]byte{byte(i)}, api.MaxData), widest()
	}
	return f
}

// TestGreatest: as many nodes and sessions as may be; the image is not above 2^19 bytes.
func TestGreatest(t *testing.T) {
	f := greatest()
	b := imageOf(f)
	if len(f.nodes) != api.MaxNodes || len(b) > 1<<19 {
		t.Errorf("P9.1: %d nodes, %d bytes", len(f.nodes), len(b))
	}
	takes(t, "the greatest tree", b, tree(t, f))
}

// TestWriteOfNone: a tree that is nil, and one that no call made.
func TestWriteOfNone(t *testing.T) {
	if b := snap.Write(nil); len(b) != 0 {
		t.Errorf("R3: Write(nil): % x", b)
	}
	if b := snap.Write(&ztree.Tree{}); len(b) != 0 {
		t.Errorf("R3: Write of a plain tree: % x", b)
	}
}

// TestWriteLeavesTheTree: it stays as it is, and goes on; each image is of the tree as it is then.
func TestWriteLeavesTheTree(t *testing.T) {
	a := tree(t, several())
	twin := a.Twin()
	first := snap.Write(a)
	if !ztree.Same(a, twin) || !slices.Equal(snap.Write(a), first) {
		t.Errorf("R5: Write changed the tree: %+v", a.Nodes())
	}
	r := api.Request{Kind: api.SetData, Path: "/z", Data: []byte("q"), Version: -1}
	x := api.Txn{Zxid: api.Zxid{Epoch: 2, N: 4}, Req: r}
	got, _ := a.Apply(x)
	want, _ := twin.Apply(x)
	if got.Err != api.OK || got.Stat != want.Stat || !ztree.Same(a, twin) {
		t.Errorf("R5: behind Write the tree goes on otherwise: %+v, not %+v", got, want)
	}
	takes(t, "behind a change", imageOf(told(a)), a)
	if slices.Equal(snap.Write(a), first) || !slices.Equal(first, imageOf(several())) {
		t.Errorf("P9.1: the image behind a change is the one ahead of it")
	}
}
