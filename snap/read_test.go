package snap_test

import (
	"bytes"
	"encoding/binary"
	"fmt"
	"math"
	"slices"
	"strings"
	"testing"

	"lagoon/api"
	"lagoon/snap"
	"lagoon/ztree"
)

// TestFourthExample: nothing, a beginning, an entry turned with the old sum, and an Owner that is no session.
func TestFourthExample(t *testing.T) {
	image := summed(newBody())
	refuses(t, "nothing", nil)
	refuses(t, "no bytes", []byte{})
	refuses(t, "the first 104 bytes", image[:104])
	turned := slices.Clone(image)
	if turned[33] != 0x1F {
		t.Fatalf("the test's own bytes: % x", turned)
	}
	turned[33] = 0x1E
	refuses(t, "1F turned into 1E", turned)
	owner := newBody()
	owner[len(owner)-5] = 1
	refuses(t, "Owner 1 with its sum", summed(owner))
	right := newBody()
	right[33] = 0x1E
	if u, e := snap.Read(summed(right)); e != api.OK || u.Nodes()[0].Acl[0].Perms != 0x1E {
		t.Errorf("P9.2: 1E with its sum: error %d", e)
	}
}

// TestEachBeginning: none of them is an image, neither as it is nor with the sum made right.
func TestEachBeginning(t *testing.T) {
	for _, body := range [][]byte{newBody(), bodyOf(several())} {
		image := summed(body)
		for n := range image {
			refuses(t, fmt.Sprint("the first bytes, ", n), image[:n])
		}
		for n := range body {
			refuses(t, fmt.Sprint("the first bytes with their sum, ", n), summed(body[:n]))
		}
	}
}

// TestBytesMore: behind an image, and ahead of its sum.
func TestBytesMore(t *testing.T) {
	for _, body := range [][]byte{newBody(), bodyOf(several())} {
		for _, more := range [][]byte{{0}, {1}, {255}, {0, 0}, make([]byte, 4), make([]byte, 8), summed(body), summed(nil)} {
			refuses(t, fmt.Sprintf("% x behind it", more), append(summed(body), more...))
			refuses(t, fmt.Sprintf("% x within it", more), summed(append(slices.Clone(body), more...)))
			refuses(t, fmt.Sprintf("% x ahead of it", more), append(slices.Clone(more), summed(body)...))
		}
	}
}

// TestEachByteTurned: into every other one: the sum tells it.
func TestEachByteTurned(t *testing.T) {
	for _, image := range [][]byte{summed(newBody()), imageOf(several())} {
		for i := range image {
			for by := 1; by < 256; by++ {
				image[i] ^= byte(by)
				refuses(t, fmt.Sprintf("byte %d turned by %02x", i, by), image)
				image[i] ^= byte(by)
			}
		}
	}
}

// TestEachByteTurnedWithItsSum: bytes that are read are then the image of what was read, and of no other tree.
func TestEachByteTurnedWithItsSum(t *testing.T) {
	read := 0
	for _, body := range [][]byte{newBody(), bodyOf(several())} {
		first, _ := snap.Read(summed(body))
		for i := range body {
			for by := 1; by < 256; by++ {
				body[i] ^= byte(by)
				image := summed(body)
				u, e := snap.Read(image)
				switch {
				case e == api.OK && (!bytes.Equal(imageOf(told(u)), image) || ztree.Same(u, first)):
					t.Errorf("P9.2: byte %d turned by %02x: a tree of another image", i, by)
				case e == api.OK:
					read++
				case e != api.ErrSnap || u != nil:
					t.Errorf("P9.2: byte %d turned by %02x: %v, %d", i, by, u != nil, e)
				}
				body[i] ^= byte(by)
			}
		}
	}
	if read < 1000 {
		t.Errorf("the test's own bytes: only %d were read", read)
	}
}

// TestShort: bytes too few for a sum, and a sum alone.
func TestShort(t *testing.T) {
	for _, b := range [][]byte{{0}, {0, 0}, {0, 0, 0}, {0, 0, 0, 0}, {0, 0, 0, 1}, []byte("LGSN"), summed([]byte("LGSN")), summed([]byte("L"))} {
		refuses(t, fmt.Sprintf("% x", b), b)
	}
}

// TestLetters: other ones, with the sum made right.
func TestLetters(t *testing.T) {
	for _, letters := range []string{"lgsn", "LGSM", "LGNS", "MGSN", "\x00\x00\x00\x00", "LGS\x00"} {
		refuses(t, letters, summed(append([]byte(letters), newBody()[4:]...)))
	}
	refuses(t, "no letters", summed(newBody()[4:]))
	refuses(t, "letters with a length", summed(append([]byte{0, 0, 0, 4}, newBody()...)))
}

// wrong is facts of which there is no tree.
func wrong() []edge {
	out := []edge{
		{"Last of epoch 0", func(f *facts) { f.last = api.Zxid{N: 99} }},
		{"Last of counter 0", func(f *facts) { f.last = api.Zxid{Epoch: 9} }},
		{"Last above the last epoch", func(f *facts) { f.last = api.Zxid{Epoch: api.LastEpoch + 1, N: 1} }},
		{"Last below a node's", func(f *facts) { f.last = z(22) }},
		{"sessions falling", func(f *facts) { slices.Reverse(f.sessions) }},
		{"a session twice", func(f *facts) { f.sessions = append(f.sessions, f.sessions[1]) }},
		{"the owner's session missing", func(f *facts) { f.sessions = f.sessions[:1] }},
		{"too many sessions", func(f *facts) { f.sessions = manySessions(api.MaxSessions + 1) }},
		{"no nodes", func(f *facts) { f.nodes = nil }},
		{"no root", func(f *facts) { f.nodes = f.nodes[1:] }},
		{"nodes falling", func(f *facts) { slices.Reverse(f.nodes) }},
		{"two nodes changed about", func(f *facts) { f.nodes[1], f.nodes[4] = f.nodes[4], f.nodes[1] }},
		{"a node twice", func(f *facts) { f.nodes = append(f.nodes, f.nodes[4]) }},
		{"the root twice", func(f *facts) { f.nodes = append([]api.Node{plain("/")}, f.nodes...) }},
		{"no parent", func(f *facts) { f.nodes = slices.Delete(f.nodes, 1, 2) }},
		{"no parent of the last", func(f *facts) { f.nodes[4].Path = "/z/y" }},
		{"a child of an ephemeral node", func(f *facts) { f.nodes = slices.Insert(f.nodes, 4, plain("/a/e/x")) }},
		{"too many nodes", func(f *facts) { f.nodes = manyNodes(api.MaxNodes + 1) }},
		{"the root's Owner", func(f *facts) { f.nodes[0].Stat.Owner = id(11) }},
		{"Owner of a parent", func(f *facts) { f.nodes[1].Stat.Owner = id(11) }},
		{"Owner no session", func(f *facts) { f.nodes[4].Stat.Owner = id(13) }},
		{"Owner below 0", func(f *facts) { f.nodes[4].Stat.Owner = -1 }},
		{"Data too long", func(f *facts) { f.nodes[4].Data = make([]byte, api.MaxData+1) }},
		{"no entries", func(f *facts) { f.nodes[4].Acl = nil }},
		{"an entry twice", func(f *facts) { f.nodes[4].Acl = append(world(), world()...) }},
		{"five entries", func(f *facts) { f.nodes[4].Acl = append(widest(), world()...) }},
	}
	for _, p := range []string{"", "z", "/z/", "//", "/zz/", "/z\x00", "/..", "/z\xFF", "/" + strings.Repeat("z", 25), "/a/b/" + strings.Repeat("z", 24) + "/" + strings.Repeat("z", 24) + "/" + strings.Repeat("z", 12)} {
		out = append(out, edge{"a path " + p, func(f *facts) { f.nodes[4].Path = p }})
	}
	for _, s := range []api.Session{{Id: 0, Timeout: 9}, {Id: -1, Timeout: 9}, {Id: math.MinInt64, Timeout: 9}, {Id: 1, Timeout: 9}, {Id: 1 << 32, Timeout: 9}, {Id: id(11)}, {Id: id(11), Timeout: -1}, {Id: id(11), Timeout: 1001}, {Id: id(11), Timeout: math.MinInt32}} {
		out = append(out, edge{fmt.Sprint("a session ", s), func(f *facts) { f.sessions[0] = s }})
	}
	for _, i := range []int64{2<<32 + 4, 3<<32 + 1, math.MaxInt64} {
		out = append(out, edge{fmt.Sprint("a session above Last ", i), func(f *facts) { f.sessions = append(f.sessions, api.Session{Id: i, Timeout: 9}) }})
	}
	for _, e := range wrongEntries() {
		out = append(out, edge{fmt.Sprint("an entry ", e), func(f *facts) { f.nodes[4].Acl = []api.Entry{e} }})
	}
	for _, w := range []api.Zxid{{N: 1}, {Epoch: 1}, {Epoch: api.LastEpoch + 1, N: 1}, {Epoch: 2, N: 4}, {Epoch: 3, N: 1}} {
		out = append(out,
			edge{fmt.Sprint("Made ", w), func(f *facts) { f.nodes[4].Stat.Made = w }},
			edge{fmt.Sprint("Changed ", w), func(f *facts) { f.nodes[4].Stat.Changed = w }},
			edge{fmt.Sprint("Childs ", w), func(f *facts) { f.nodes[4].Stat.Childs = w }})
	}
	return out
}

func wrongEntries() []api.Entry {
	var l []api.Entry
	for _, perms := range []int8{0, -1, 32, math.MinInt8, math.MaxInt8} {
		l = append(l, api.Entry{Perms: perms, Who: world()[0].Who})
	}
	for _, who := range []api.Id{{}, {Scheme: "auth"}, {Scheme: "world"}, {Scheme: "world", Name: "ann"}, {Scheme: "World", Name: "anyone"}, {Scheme: "ip", Name: "1.2.3"}, {Scheme: "name"}, {Scheme: "name", Name: "Ann"}, {Scheme: "name", Name: strings.Repeat("a", api.MaxId+1)}, {Scheme: strings.Repeat("n", api.MaxId+1), Name: "a"}} {
		l = append(l, api.Entry{Perms: 1, Who: who})
	}
	return l
}

// manySessions is so many sessions, ids as several has them among them.
func manySessions(n int) []api.Session {
	var l []api.Session
	for i := range n {
		l = append(l, api.Session{Id: id(uint32(i + 1)), Timeout: 9})
	}
	return l
}

// manyNodes is the root and children of it, so many in all.
func manyNodes(n int) []api.Node {
	l := []api.Node{plain("/")}
	for i := range n - 1 {
		l = append(l, plain(fmt.Sprintf("/n%04d", i)))
	}
	return l
}

// TestNoSuchTree: the sum is right, and the bytes are those of fields, but of no tree.
func TestNoSuchTree(t *testing.T) {
	for _, c := range wrong() {
		f := several()
		c.turn(&f)
		refuses(t, c.what, imageOf(f))
	}
}

// TestMany: as many sessions, and as many nodes, as may be.
func TestMany(t *testing.T) {
	for _, f := range []facts{
		{last: z(api.MaxSessions), sessions: manySessions(api.MaxSessions), nodes: manyNodes(1)},
		{nodes: manyNodes(api.MaxNodes)},
		{nodes: manyNodes(api.MaxNodes - 1)},
	} {
		takes(t, fmt.Sprintf("%d sessions, %d nodes", len(f.sessions), len(f.nodes)), imageOf(f), tree(t, f))
	}
}

// TestCounts: each count and each length one more, one less, below 0, and as great as it can be, with the sum made right.
func TestCounts(t *testing.T) {
	body := newBody()
	for what, at := range map[string]int{"sessions": 12, "nodes": 16, "Path": 20, "Data": 25, "Acl": 29, "Scheme": 34, "Name": 43} {
		old := binary.BigEndian.Uint32(body[at:])
		for _, n := range []uint32{old + 1, old - 1, old + 256, 1 << 31, math.MaxInt32, math.MaxUint32, 1 << 20} {
			binary.BigEndian.PutUint32(body[at:], n)
			refuses(t, fmt.Sprintf("the count of %s %d", what, int32(n)), summed(body))
		}
		binary.BigEndian.PutUint32(body[at:], old)
	}
	if !bytes.Equal(body, newBody()) {
		t.Errorf("the test's own bytes: % x", body)
	}
}

// TestSizeAndCount: they are what Data and the other nodes make them.
func TestSizeAndCount(t *testing.T) {
	names := []string{"/", "/a", "/a-", "/a-/x", "/a/b", "/a/b/c", "/a/bb", "/a0", "/b", "/b/b"}
	f := facts{}
	for i, p := range names {
		f.nodes = append(f.nodes, plain(p))
		f.nodes[i].Data = make([]byte, i)
	}
	u, e := snap.Read(imageOf(f))
	if e != api.OK {
		t.Fatalf("P9.2: error %d", e)
	}
	counts := []int{4, 2, 1, 0, 1, 0, 0, 0, 1, 0}
	for i, n := range u.Nodes() {
		if n.Path != names[i] || n.Stat.Size != i || n.Stat.Count != counts[i] {
			t.Errorf("P9.2: %s: Size %d, Count %d, not %d, %d", n.Path, n.Stat.Size, n.Stat.Count, i, counts[i])
		}
	}
}

// TestReadGoesOn: a tree that was read does what the one that was written does.
func TestReadGoesOn(t *testing.T) {
	a := tree(t, several())
	b, e := snap.Read(snap.Write(a))
	if e != api.OK {
		t.Fatalf("P9.2: error %d", e)
	}
	for i, r := range []api.Request{
		{Kind: api.Create, Path: "/a/", Sequence: true},
		{Kind: api.Close, Session: id(12)},
		{Kind: api.Open, Timeout: 5},
		{Kind: api.Delete, Path: "/a", Version: -1},
		{Kind: api.Delete, Path: "/z", Version: 0},
	} {
		x := api.Txn{Zxid: api.Zxid{Epoch: 3, N: uint32(i + 1)}, Req: r}
		one, _ := a.Apply(x)
		two, _ := b.Apply(x)
		if one.Err != two.Err || one.Path != two.Path || !ztree.Same(a, b) {
			t.Errorf("P9.2: behind %+v: %+v, not %+v", r, two, one)
		}
	}
}
