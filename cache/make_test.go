package cache_test

import (
	"math"
	"slices"
	"testing"

	"lagoon/api"
	"lagoon/cache"
	"lagoon/txn"
)

// noPlaces are places that no ring has.
var noPlaces = []int{math.MinInt, -api.MaxCache, -2, -1, api.MaxCache, api.MaxCache + 1, math.MaxInt}

// noMosts are numbers of which there is no ring.
var noMosts = []int{math.MinInt, -api.MaxCache, -2, -1, api.MaxCache + 1, 2 * api.MaxCache, 1 << 32, math.MaxInt}

// ring is one of at most so many, with these put into it.
func ring[T any](t *testing.T, most int, things ...T) *cache.Ring[T] {
	t.Helper()
	r, e := cache.NewRing[T](most)
	if r == nil || e != api.OK {
		t.Fatalf("P13.1: NewRing(%d): %v, %d", most, r != nil, e)
	}
	puts(r, things...)
	return r
}

func puts[T any](r *cache.Ring[T], things ...T) {
	for _, x := range things {
		r.Put(x)
	}
}

// holds looks that a ring has just these, whatever it is asked by.
func holds[T comparable](t *testing.T, what string, r *cache.Ring[T], want ...T) {
	t.Helper()
	if r.Len() != len(want) {
		t.Errorf("%s: Len %d, not %d", what, r.Len(), len(want))
	}
	for i, x := range want {
		if got, is := r.At(i); got != x || !is {
			t.Errorf("%s: At(%d): %v, %t, not %v", what, i, got, is, x)
		}
	}
	var none T
	for _, i := range append([]int{len(want), len(want) + 1}, noPlaces...) {
		if got, is := r.At(i); got != none || is {
			t.Errorf("%s: At(%d): %v, %t, though there are %d", what, i, got, is, len(want))
		}
	}
	gives(t, what, r.All(), want...)
}

// gives looks that going over a walk gives just these, each at its place.
func gives[T comparable](t *testing.T, what string, walk func(func(int, T) bool), want ...T) {
	t.Helper()
	var got []T
	for i, x := range walk {
		if i != len(got) {
			t.Errorf("%s: All gives place %d behind %d things", what, i, len(got))
		}
		got = append(got, x)
	}
	if !slices.Equal(got, want) {
		t.Errorf("%s: All gives %v, not %v", what, got, want)
	}
}

// counted are the numbers from one on, so many.
func counted(from, n int) []int {
	var out []int
	for i := range n {
		out = append(out, from+i)
	}
	return out
}

// lastOf are the last so many of a list, or all of it.
func lastOf[T any](l []T, most int) []T {
	for len(l) > most {
		l = l[1:]
	}
	return l
}

func z(epoch, n uint32) api.Zxid { return api.Zxid{Epoch: epoch, N: n} }

// rich is a transaction with something in each of its lists, by which one is known from another.
func rich(at api.Zxid) api.Txn {
	mark := byte(16*at.Epoch + at.N)
	op := api.Request{
		Kind: api.Create, Path: "/op", Data: []byte{mark, 2},
		Acl: []api.Entry{{Perms: int8(mark % 32), Who: api.Id{Scheme: "name", Name: "bob"}}},
		Who: []api.Id{{Scheme: "name", Name: "cid"}},
		Ops: []api.Request{{Kind: api.Delete, Path: "/low", Data: []byte{mark, 3}}},
	}
	return api.Txn{
		Zxid: at,
		From: api.Origin{Server: 3, Boot: at.Epoch, Number: int64(at.N)},
		Req: api.Request{
			Kind: api.Multi, Path: "/a", Data: []byte{mark, 1}, Version: int32(mark), Ephemeral: true, Session: 7,
			Acl: []api.Entry{{Perms: 31, Who: api.Id{Scheme: "world", Name: "anyone"}}, {Perms: 1}},
			Who: []api.Id{{Scheme: "name", Name: "ann"}, {Scheme: "ip", Name: "10.1.2.3"}},
			Ops: []api.Request{op, {Kind: api.Check, Path: "/b", Version: int32(mark)}},
		},
	}
}

// riches are transactions of these zxids, in this order.
func riches(l ...api.Zxid) []api.Txn {
	var out []api.Txn
	for _, at := range l {
		out = append(out, rich(at))
	}
	return out
}

// rising are so many zxids that rise, over several epochs, with gaps between them.
func rising(n int) []api.Zxid {
	var out []api.Zxid
	for i := range uint32(n) {
		out = append(out, z(1+i/5, 2+2*(i%5)))
	}
	return out
}

// txns is a cache of at most so many, made of transactions of these zxids.
func txns(t *testing.T, most int, l ...api.Zxid) *cache.Txns {
	t.Helper()
	c, e := cache.NewTxns(most, riches(l...))
	if c == nil || e != api.OK {
		t.Fatalf("P13.4: NewTxns(%d, %v): %v, %d", most, l, c != nil, e)
	}
	return c
}

// has looks that a cache has just the transactions of these zxids.
func has(t *testing.T, what string, c *cache.Txns, want ...api.Zxid) {
	t.Helper()
	if c.Len() != len(want) {
		t.Errorf("%s: Len %d, not %d", what, c.Len(), len(want))
	}
	spans(t, what, c, want...)
	tells(t, what, c, api.Zxid{}, api.Zxid{}, want...)
}

// spans looks at the first and the last zxid of those that a cache has.
func spans(t *testing.T, what string, c *cache.Txns, all ...api.Zxid) {
	t.Helper()
	var first, last api.Zxid
	if len(all) > 0 {
		first, last = all[0], all[len(all)-1]
	}
	if a, b, is := c.Span(); a != first || b != last || is != (len(all) > 0) {
		t.Errorf("%s: Span %v, %v, %t, not %v, %v", what, a, b, is, first, last)
	}
}

// tells looks that Behind answers the transactions of these zxids, whole.
func tells(t *testing.T, what string, c *cache.Txns, at, ahead api.Zxid, want ...api.Zxid) {
	t.Helper()
	l, is := c.Behind(at, ahead)
	if !is || !slices.EqualFunc(l, riches(want...), txn.Same) {
		t.Errorf("%s: Behind(%v, %v): %v, %t, not %v", what, at, ahead, l, is, want)
	}
}

// lacks looks that Behind says that something is missing.
func lacks(t *testing.T, what string, c *cache.Txns, at, ahead api.Zxid) {
	t.Helper()
	if l, is := c.Behind(at, ahead); len(l) != 0 || is {
		t.Errorf("%s: Behind(%v, %v): %v, %t, not none and false", what, at, ahead, l, is)
	}
}

// adds gives a cache a transaction of this zxid, and looks at the answer.
func adds(t *testing.T, what string, c *cache.Txns, at api.Zxid, want api.Errno) {
	t.Helper()
	if e := c.Add(rich(at)); e != want {
		t.Errorf("%s: Add(%v): %d, not %d", what, at, e, want)
	}
}
