package snap_test

import (
	"encoding/binary"
	"hash/adler32"
	"slices"
	"strings"
	"testing"

	"lagoon/api"
	"lagoon/snap"
	"lagoon/ztree"
)

// facts is what a tree is made of.
type facts struct {
	last     api.Zxid
	sessions []api.Session
	nodes    []api.Node
}

// laid is a text, or a buffer, with its length.
func laid[T string | []byte](s T) []byte {
	return append(binary.BigEndian.AppendUint32(nil, uint32(len(s))), s...)
}

func zxidBytes(z api.Zxid) []byte {
	return binary.BigEndian.AppendUint32(binary.BigEndian.AppendUint32(nil, z.Epoch), z.N)
}

func nodeBytes(n api.Node) []byte {
	order := binary.BigEndian
	b := append(laid(n.Path), laid(n.Data)...)
	b = order.AppendUint32(b, uint32(len(n.Acl)))
	for _, e := range n.Acl {
		b = append(b, byte(e.Perms))
		b = append(b, laid(e.Who.Scheme)...)
		b = append(b, laid(e.Who.Name)...)
	}
	for _, z := range []api.Zxid{n.Stat.Made, n.Stat.Changed, n.Stat.Childs} {
		b = append(b, zxidBytes(z)...)
	}
	for _, v := range []int32{n.Stat.Version, n.Stat.Cversion, n.Stat.Aversion} {
		b = order.AppendUint32(b, uint32(v))
	}
	return order.AppendUint32(order.AppendUint64(b, uint64(n.Stat.Owner)), uint32(n.Next))
}

func sessionBytes(s api.Session) []byte {
	return binary.BigEndian.AppendUint32(binary.BigEndian.AppendUint64(nil, uint64(s.Id)), uint32(s.Timeout))
}

// bodyOf is an image's bytes ahead of its sum by the chapter's words, without package pack, whether there is such a tree or not.
func bodyOf(f facts) []byte {
	b := append([]byte("LGSN"), zxidBytes(f.last)...)
	b = binary.BigEndian.AppendUint32(b, uint32(len(f.sessions)))
	for _, s := range f.sessions {
		b = append(b, sessionBytes(s)...)
	}
	b = binary.BigEndian.AppendUint32(b, uint32(len(f.nodes)))
	for _, n := range f.nodes {
		b = append(b, nodeBytes(n)...)
	}
	return b
}

// summed is bytes with their sum behind them, by Go's own library.
func summed(b []byte) []byte {
	return binary.BigEndian.AppendUint32(slices.Clone(b), adler32.Checksum(b))
}

func imageOf(f facts) []byte { return summed(bodyOf(f)) }

func told(t *ztree.Tree) facts { return facts{t.Last(), t.Sessions(), t.Nodes()} }

// tree is the tree of these facts, with Size and Count as they must be.
func tree(t *testing.T, f facts) *ztree.Tree {
	t.Helper()
	nodes := slices.Clone(f.nodes)
	for i := range nodes {
		nodes[i].Stat.Size = len(nodes[i].Data)
		nodes[i].Stat.Count = 0
		for _, n := range nodes {
			if n.Path != "/" && above(n.Path) == nodes[i].Path {
				nodes[i].Stat.Count++
			}
		}
	}
	made, e := ztree.From(f.last, nodes, f.sessions)
	if e != api.OK {
		t.Fatalf("the test's own tree: error %d of %+v", e, f)
	}
	return made
}

// above is the path of a path's parent.
func above(p string) string {
	names := strings.Split(p, "/")
	if len(names) == 2 {
		return "/"
	}
	return strings.Join(names[:len(names)-1], "/")
}

func world() []api.Entry {
	return []api.Entry{{Perms: api.PermAll, Who: api.Id{Scheme: "world", Name: "anyone"}}}
}

// plain is a node with nothing but a path and an Acl.
func plain(path string) api.Node { return api.Node{Path: path, Acl: world()} }

func z(n uint32) api.Zxid { return api.Zxid{Epoch: 1, N: n} }

// id is the number of the session that z(n) opened.
func id(n uint32) int64 { return 1<<32 + int64(n) }

// several is what a tree with two sessions and five nodes is made of, of which no two fields of a node are the same.
func several() facts {
	deep := api.Node{
		Path: "/a/b", Data: []byte{7, 0, 255},
		Acl: []api.Entry{
			{Perms: 3, Who: api.Id{Scheme: "name", Name: "ann"}},
			{Perms: 16, Who: api.Id{Scheme: "ip", Name: "10.1.2.3/8"}},
		},
		Stat: api.Stat{
			Made: z(21), Changed: z(22), Childs: z(23),
			Version: 24, Cversion: 25, Aversion: 26,
		},
		Next: 27,
	}
	own := plain("/a/e")
	own.Stat.Owner = id(12)
	return facts{
		api.Zxid{Epoch: 2, N: 3},
		[]api.Session{{Id: id(11), Timeout: 9}, {Id: id(12), Timeout: 1000}},
		[]api.Node{plain("/"), plain("/a"), deep, own, plain("/z")},
	}
}

// refuses looks that bytes are no tree's image.
func refuses(t *testing.T, what string, b []byte) {
	t.Helper()
	if u, e := snap.Read(b); u != nil || e != api.ErrSnap {
		t.Errorf("P9.2: Read, %s: %v, %d, not ErrSnap", what, u != nil, e)
	}
}

// takes looks that bytes are this tree's image, for Write and for Read.
func takes(t *testing.T, what string, b []byte, want *ztree.Tree) {
	t.Helper()
	if got := snap.Write(want); !slices.Equal(got, b) {
		t.Errorf("P9.1: Write, %s: %d bytes\n% x\nnot %d\n% x", what, len(got), got, len(b), b)
	}
	u, e := snap.Read(b)
	if e != api.OK || !ztree.Same(u, want) {
		t.Errorf("P9.2: Read, %s: %d, %+v, not %+v", what, e, u.Nodes(), want.Nodes())
	}
}

// does gives a tree requests that are done, each with the next zxid.
func does(t *testing.T, tree *ztree.Tree, l ...api.Request) {
	t.Helper()
	for _, r := range l {
		if x, _ := tree.Apply(api.Txn{Zxid: z(tree.Last().N + 1), Req: r}); x.Err != api.OK {
			t.Fatalf("%+v: error %d", r, x.Err)
		}
	}
}
