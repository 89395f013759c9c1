package digest_test

import (
	"bytes"
	"encoding/binary"
	"hash/fnv"
	"math/big"
	"slices"
	"testing"

	"lagoon/api"
	"lagoon/digest"
	"lagoon/ztree"
)

// number is the number of bytes, by Go's own library.
func number(b []byte) uint64 {
	h := fnv.New64a()
	h.Write(b)
	return h.Sum64()
}

// laid is a text, or a buffer, with its length.
func laid[T string | []byte](s T) []byte {
	return append(binary.BigEndian.AppendUint32(nil, uint32(len(s))), s...)
}

// nodeBytes is a node's bytes by the chapter's words, without package pack.
func nodeBytes(n api.Node) []byte {
	order := binary.BigEndian
	b := append([]byte{1}, laid(n.Path)...)
	b = append(b, laid(n.Data)...)
	b = order.AppendUint32(b, uint32(len(n.Acl)))
	for _, e := range n.Acl {
		b = append(b, byte(e.Perms))
		b = append(b, laid(e.Who.Scheme)...)
		b = append(b, laid(e.Who.Name)...)
	}
	for _, z := range []api.Zxid{n.Stat.Made, n.Stat.Changed, n.Stat.Childs} {
		b = order.AppendUint32(order.AppendUint32(b, z.Epoch), z.N)
	}
	for _, v := range []int32{n.Stat.Version, n.Stat.Cversion, n.Stat.Aversion} {
		b = order.AppendUint32(b, uint32(v))
	}
	return order.AppendUint32(order.AppendUint64(b, uint64(n.Stat.Owner)), uint32(n.Next))
}

func sessionBytes(s api.Session) []byte {
	order := binary.BigEndian
	return order.AppendUint32(order.AppendUint64([]byte{2}, uint64(s.Id)), uint32(s.Timeout))
}

// looks compares a node's number with that of these bytes.
func looks(t *testing.T, what string, n api.Node, b []byte) {
	t.Helper()
	if got, want := digest.Node(n), number(b); got != want {
		t.Errorf("P8.1: Node, %s: %X, not %X, the number of %d bytes that begin % x", what, got, want, len(b), b[:min(len(b), 120)])
	}
}

// round is a sum modulo 2^64, reckoned without numbers that wrap: d, less some, more others.
func round(d uint64, less, more []uint64) uint64 {
	sum := new(big.Int).SetUint64(d)
	for _, x := range less {
		sum.Sub(sum, new(big.Int).SetUint64(x))
	}
	for _, x := range more {
		sum.Add(sum, new(big.Int).SetUint64(x))
	}
	return sum.Mod(sum, new(big.Int).Lsh(big.NewInt(1), 64)).Uint64()
}

func nodeNumbers(l []api.Node) []uint64 {
	var out []uint64
	for _, n := range l {
		out = append(out, number(nodeBytes(n)))
	}
	return out
}

func sessionNumbers(l []api.Session) []uint64 {
	var out []uint64
	for _, s := range l {
		out = append(out, number(sessionBytes(s)))
	}
	return out
}

// treeNumber is a tree's number by the chapter's words.
func treeNumber(t *ztree.Tree) uint64 {
	return round(0, nil, append(nodeNumbers(t.Nodes()), sessionNumbers(t.Sessions())...))
}

// whole is a node of which no field is zero, and no two are the same.
func whole() api.Node {
	return api.Node{
		Path: "/ab",
		Data: []byte{7, 0, 255},
		Acl: []api.Entry{
			{Perms: 31, Who: api.Id{Scheme: "name", Name: "ann"}},
			{Perms: -2, Who: api.Id{Scheme: "ip", Name: "10.1.2.3"}},
		},
		Stat: api.Stat{
			Made: api.Zxid{Epoch: 1, N: 2}, Changed: api.Zxid{Epoch: 3, N: 4}, Childs: api.Zxid{Epoch: 5, N: 6},
			Version: 8, Cversion: 9, Aversion: 10, Owner: 11, Size: 12, Count: 13,
		},
		Next: 14,
	}
}

func sameNode(a, b api.Node) bool {
	return a.Path == b.Path && bytes.Equal(a.Data, b.Data) && slices.Equal(a.Acl, b.Acl) && a.Stat == b.Stat && a.Next == b.Next
}

func z(n uint32) api.Zxid { return api.Zxid{Epoch: 1, N: n} }

func create(p, data string) api.Request {
	return api.Request{Kind: api.Create, Path: p, Data: []byte(data)}
}

func set(p, data string) api.Request {
	return api.Request{Kind: api.SetData, Path: p, Data: []byte(data), Version: -1}
}

func remove(p string) api.Request { return api.Request{Kind: api.Delete, Path: p, Version: -1} }

func multi(ops ...api.Request) api.Request { return api.Request{Kind: api.Multi, Ops: ops} }

func open(timeout int32) api.Request { return api.Request{Kind: api.Open, Timeout: timeout} }

func closing(session int64) api.Request { return api.Request{Kind: api.Close, Session: session} }

func ephemeral(p string, session int64) api.Request {
	return api.Request{Kind: api.Create, Path: p, Ephemeral: true, Session: session}
}

// does gives a tree requests that are done, each with the next zxid.
func does(t *testing.T, tree *ztree.Tree, l ...api.Request) {
	t.Helper()
	for _, r := range l {
		if x, _ := tree.Apply(api.Txn{Zxid: z(tree.Last().N + 1), Req: r}); x.Err != api.OK {
			t.Fatalf("%+v: error %d", r, x.Err)
		}
	}
}

// road is the tree that requests make of the new one.
func road(t *testing.T, l ...api.Request) *ztree.Tree {
	t.Helper()
	tree := ztree.New()
	does(t, tree, l...)
	return tree
}
