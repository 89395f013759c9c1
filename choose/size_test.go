package choose_test

import (
	"slices"
	"strings"
	"testing"

	"lagoon/api"
	"lagoon/choose"
)

func sizes(t *testing.T, what string, want int, l ...api.Txn) {
	t.Helper()
	if n := choose.Size(l); n != want {
		t.Errorf("%s: Size: %d, not %d", what, n, want)
	}
}

func TestSize(t *testing.T) {
	sizes(t, "P14.2: of none", 0)
	sizes(t, "P14.2: the examples' log", 150, exampleLog(t)...)
	for n := leastSize; n <= mostSize; n++ {
		sizes(t, "P14.2: of one", n, sized(t, z(1, 1), n))
	}
	all := 0
	var l []api.Txn
	for i, at := range rising(z(0, 0), 40) {
		l = append(l, sized(t, at, leastSize+i))
		all += leastSize + i
		sizes(t, "P14.2: of several", all, l...)
	}
}

// TestSizeOfKinds: the bytes are those that chapter 4 counts, of each kind that writes.
func TestSizeOfKinds(t *testing.T) {
	l := []api.Txn{
		{Req: api.Request{Kind: api.Create, Path: "/a", Acl: []api.Entry{{Perms: 31, Who: api.Id{Scheme: "world", Name: "anyone"}}}}},
		{Zxid: z(1, 2), From: api.Origin{Server: 3, Boot: 4, Number: 5}, Req: api.Request{Kind: api.Delete, Path: "/a", Version: -1}},
		{Req: api.Request{Kind: api.SetData, Path: "/a", Data: []byte{7}}},
		{Req: api.Request{Kind: api.SetAcl, Path: "/a"}},
		{Req: api.Request{Kind: api.Check, Path: "/a"}},
		{Req: api.Request{Kind: api.Multi, Ops: []api.Request{{Kind: api.Check, Path: "/a"}}}},
		{Req: api.Request{Kind: api.Open, Timeout: 9}},
		{Req: api.Request{Kind: api.Close, Session: 5}},
	}
	want := []int{22 + 6 + 4 + 4 + 1 + 9 + 10 + 2 + 8 + 4, 44, 22 + 6 + 5 + 4 + 8 + 4, 22 + 6 + 4 + 4 + 8 + 4, 22 + 6 + 4 + 8 + 4, 22 + 8 + 4 + 4 + 1 + 6 + 4, 22 + 4, 22 + 8}
	all := 0
	for i, x := range l {
		sizes(t, "P14.2: of a kind", want[i], x)
		all += want[i]
	}
	sizes(t, "P14.2: of all kinds", all, l...)
}

// TestSizeAnyOrder: their zxids need not rise, nor differ.
func TestSizeAnyOrder(t *testing.T) {
	sizes(t, "P14.2: in any order", 150, logOf(t, z(2, 1), z(1, 1), z(1, 1))...)
	sizes(t, "P14.2: without zxids", 100, logOf(t, z(0, 0), z(0, 0))...)
}

// refusedOnes are transactions that layer 4 refuses, for one cause each.
func refusedOnes(t *testing.T) []api.Txn {
	with := func(f func(x *api.Txn)) api.Txn {
		x := sized(t, z(1, 1), 50)
		f(&x)
		return x
	}
	return []api.Txn{
		{},
		refused(t, z(1, 1)),
		with(func(x *api.Txn) { x.Zxid = z(1, 0) }),
		with(func(x *api.Txn) { x.Zxid = z(0, 1) }),
		with(func(x *api.Txn) { x.Zxid = z(1<<31, 1) }),
		with(func(x *api.Txn) { x.From.Server = -1 }),
		with(func(x *api.Txn) { x.From.Server = api.MaxServers }),
		with(func(x *api.Txn) { x.From.Number = -1 }),
		with(func(x *api.Txn) { x.Req.Kind = 0 }),
		with(func(x *api.Txn) { x.Req.Kind = 13 }),
		with(func(x *api.Txn) { x.Req.Kind = api.Delete }),
		with(func(x *api.Txn) { x.Req.Ephemeral = true }),
		with(func(x *api.Txn) { x.Req.Session = -1 }),
		with(func(x *api.Txn) { x.Req.Path = strings.Repeat("/a", 33) }),
		with(func(x *api.Txn) { x.Req.Data = make([]byte, api.MaxData+1) }),
	}
}

// TestSizeOfRefused: alone, all together, and at each place among others.
func TestSizeOfRefused(t *testing.T) {
	all := refusedOnes(t)
	sizes(t, "P14.2: all are refused", 0, all...)
	for _, x := range all {
		sizes(t, "P14.2: one that is refused", 0, x)
		for at := range 4 {
			sizes(t, "P14.2: one of them is refused", 150, slices.Insert(exampleLog(t), at, x)...)
		}
	}
}
