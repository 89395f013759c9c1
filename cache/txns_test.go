package cache_test

import (
	"fmt"
	"math"
	"slices"
	"strings"
	"testing"

	"lagoon/api"
	"lagoon/cache"
)

func TestThirdExample(t *testing.T) {
	c := txns(t, 2, z(1, 1), z(1, 2), z(1, 3))
	spans(t, "P13.5", c, z(1, 2), z(1, 3))
	tells(t, "P13.6", c, z(1, 1), z(1, 1), z(1, 2), z(1, 3))
	tells(t, "P13.6", c, z(1, 2), z(1, 1), z(1, 3))
	lacks(t, "P13.6", c, z(0, 0), z(1, 1))
	tells(t, "P13.6", c, z(1, 3), z(1, 1))
	tells(t, "P13.6", c, z(2, 1), z(1, 1))
}

func TestFourthExample(t *testing.T) {
	c := txns(t, 2, z(1, 1), z(1, 2), z(1, 3))
	adds(t, "P13.5", c, z(1, 3), api.ErrOrder)
	adds(t, "P13.5", c, z(1, 4), api.OK)
	spans(t, "P13.5", c, z(1, 3), z(1, 4))
	n := txns(t, 0, z(1, 1))
	spans(t, "P13.5: of at most none", n)
	tells(t, "P13.6: of at most none", n, z(1, 1), z(1, 1))
	lacks(t, "P13.6: of at most none", n, z(0, 0), z(1, 1))
	adds(t, "P13.5: of at most none", n, z(0, 0), api.ErrOrder)
}

// TestNewTxns: of lists shorter than, as long as and longer than most: the last ones are there, whole.
func TestNewTxns(t *testing.T) {
	for _, most := range []int{0, 1, 2, 3, 5, api.MaxCache - 1, api.MaxCache} {
		for _, n := range []int{0, 1, 2, 3, 4, 5, 6, 11, api.MaxCache - 1, api.MaxCache, api.MaxCache + 1, 3 * api.MaxCache} {
			l := rising(n)
			has(t, fmt.Sprintf("P13.4: %d of %d", most, n), txns(t, most, l...), lastOf(l, most)...)
		}
	}
}

// TestNewTxnsAnyThatRise: what the transactions are beside their zxids is not looked at, nor which zxids may be.
func TestNewTxnsAnyThatRise(t *testing.T) {
	l := []api.Zxid{z(0, 1), z(0, 7), z(1, 0), z(1, math.MaxUint32), z(2, 0), z(1<<31, 5), z(math.MaxUint32, 0), z(math.MaxUint32, math.MaxUint32)}
	has(t, "P13.4: zxids of any numbers", txns(t, 9, l...), l...)
	c, e := cache.NewTxns(2, []api.Txn{{Zxid: z(1, 1)}, {Zxid: z(1, 2), Req: api.Request{Kind: -5, Session: -1}}})
	if e != api.OK || c.Len() != 2 {
		t.Errorf("P13.4: transactions that may not be: %d", e)
	}
}

// TestNewTxnsArg: of numbers that may not be, ahead of what is wrong in the list.
func TestNewTxnsArg(t *testing.T) {
	for _, most := range noMosts {
		for _, l := range [][]api.Zxid{nil, {z(1, 1)}, {z(1, 1), z(1, 1)}, {z(0, 0)}} {
			if c, e := cache.NewTxns(most, riches(l...)); c != nil || e != api.ErrArg {
				t.Errorf("P13.4: NewTxns(%d, %v): %v, %d", most, l, c != nil, e)
			}
		}
	}
	for most := 0; most <= api.MaxCache; most++ {
		has(t, "P13.4: of no transactions", txns(t, most))
	}
}

// TestNewTxnsOrder: a list that does not rise at one place, whether what is there would be kept or not.
func TestNewTxnsOrder(t *testing.T) {
	whole := rising(12)
	for _, most := range []int{0, 1, 2, 5, 12, api.MaxCache} {
		for i := range whole {
			ahead := api.Zxid{}
			if i > 0 {
				ahead = whole[i-1]
			}
			for _, bad := range []api.Zxid{{}, ahead, {Epoch: ahead.Epoch, N: ahead.N / 2}, {Epoch: ahead.Epoch / 2, N: ahead.N}} {
				l := slices.Clone(whole)
				l[i] = bad
				if c, e := cache.NewTxns(most, riches(l...)); c != nil || e != api.ErrOrder {
					t.Errorf("P13.4: NewTxns(%d, %v): %v, %d", most, l, c != nil, e)
				}
			}
		}
	}
}

// TestNewTxnsZeroFirst: the zxid zero is not above zero; neither alone, nor ahead of others.
func TestNewTxnsZeroFirst(t *testing.T) {
	for _, most := range []int{0, 1, 2, api.MaxCache} {
		for n := range 4 {
			l := append([]api.Zxid{{}}, rising(n)...)
			if c, e := cache.NewTxns(most, riches(l...)); c != nil || e != api.ErrOrder {
				t.Errorf("P13.4: NewTxns(%d, %v): %v, %d", most, l, c != nil, e)
			}
		}
	}
}

// TestAdd: below, at and above the last zxid; what is refused changes nothing.
func TestAdd(t *testing.T) {
	for _, most := range []int{1, 2, 3, api.MaxCache} {
		c := txns(t, most, z(2, 5), z(3, 5))
		for _, at := range []api.Zxid{z(0, 0), z(0, 6), z(1, 9), z(2, 5), z(2, 6), z(2, math.MaxUint32), z(3, 0), z(3, 4), z(3, 5)} {
			adds(t, "P13.5: not above the last", c, at, api.ErrOrder)
			has(t, "P13.5: refused", c, lastOf([]api.Zxid{z(2, 5), z(3, 5)}, most)...)
		}
		all := []api.Zxid{z(2, 5), z(3, 5)}
		for _, at := range []api.Zxid{z(3, 6), z(3, 9), z(4, 0), z(4, 1), z(9, 0), z(math.MaxUint32, math.MaxUint32)} {
			adds(t, "P13.5: above the last", c, at, api.OK)
			all = append(all, at)
			has(t, "P13.5: added", c, lastOf(all, most)...)
			adds(t, "P13.5: twice", c, at, api.ErrOrder)
		}
	}
}

// TestAddRound: several times round, up to each most.
func TestAddRound(t *testing.T) {
	for _, most := range []int{0, 1, 2, 7, api.MaxCache} {
		c, all := txns(t, most), rising(3*api.MaxCache)
		for i, at := range all {
			adds(t, "P13.5: one more", c, at, api.OK)
			has(t, "P13.5: one more", c, lastOf(all[:i+1], most)...)
		}
	}
}

// TestAddToEmpty: to a cache that has none anything but zero may be added: also to one of at most none, however often.
func TestAddToEmpty(t *testing.T) {
	for _, at := range []api.Zxid{z(0, 1), z(1, 0), z(1, 1), z(7, 9), z(math.MaxUint32, math.MaxUint32)} {
		for _, most := range []int{1, 2, api.MaxCache} {
			c := txns(t, most)
			adds(t, "P13.5: zero to an empty cache", c, api.Zxid{}, api.ErrOrder)
			has(t, "P13.5: refused", c)
			adds(t, "P13.5: to an empty cache", c, at, api.OK)
			has(t, "P13.5: added", c, at)
		}
		none := txns(t, 0, z(5, 5))
		for range 3 {
			adds(t, "P13.5: to one of at most none", none, at, api.OK)
			adds(t, "P13.5: zero to one of at most none", none, api.Zxid{}, api.ErrOrder)
			has(t, "P13.5: of at most none", none)
		}
	}
}

// TestClearTxns: behind it the cache is an empty one: what it had counts for nothing.
func TestClearTxns(t *testing.T) {
	for _, most := range []int{0, 1, 2, 3, api.MaxCache} {
		for n := range 2*most + 2 {
			c := txns(t, most, rising(n)...)
			for range 2 {
				c.Clear()
				has(t, "P13.5: Clear", c)
			}
			adds(t, "P13.5: zero behind Clear", c, api.Zxid{}, api.ErrOrder)
			all := rising(2*most + 1)
			for i, at := range all {
				adds(t, "P13.5: behind Clear", c, at, api.OK)
				has(t, "P13.5: behind Clear", c, lastOf(all[:i+1], most)...)
			}
		}
	}
}

// TestAddAny: what a transaction is beside its zxid is not looked at.
func TestAddAny(t *testing.T) {
	c := txns(t, 2, z(1, 1))
	if e := c.Add(api.Txn{Zxid: z(1, 2), From: api.Origin{Server: -1, Number: -1}, Req: api.Request{Kind: 99}}); e != api.OK {
		t.Errorf("P13.5: one that may not be: %d", e)
	}
	spans(t, "P13.5", c, z(1, 1), z(1, 2))
}

// noCaches are caches that NewTxns did not make, whatever their ring is.
func noCaches(t *testing.T) []*cache.Txns {
	return []*cache.Txns{nil, {}, new(cache.Txns), {Ring: *ring(t, 2, rich(z(1, 1)))}}
}

// TestNoCache: nothing can be asked of such a one, and nothing is told.
func TestNoCache(t *testing.T) {
	for _, c := range noCaches(t) {
		look := func() {
			t.Helper()
			if c.Len() != 0 {
				t.Errorf("R3: no cache: Len %d", c.Len())
			}
			spans(t, "R3: no cache", c)
			for _, at := range []api.Zxid{z(0, 0), z(1, 0), z(1, 1), z(1, 2)} {
				lacks(t, "P13.6: no cache", c, at, z(0, 0))
				lacks(t, "P13.6: no cache", c, at, at)
				lacks(t, "P13.6: no cache", c, z(0, 0), at)
			}
		}
		look()
		for _, at := range []api.Zxid{z(0, 0), z(1, 1), z(1, 2)} {
			adds(t, "R3: no cache", c, at, api.ErrArg)
			look()
		}
		c.Clear()
		look()
	}
}

// TestTwoCaches: in turns: they know nothing of each other.
func TestTwoCaches(t *testing.T) {
	all := rising(20)
	a, b := txns(t, 3), txns(t, 5, all[:2]...)
	for i, at := range all {
		adds(t, "R6: the first", a, at, api.OK)
		has(t, "R6: the first", a, lastOf(all[:i+1], 3)...)
		if i < 2 {
			adds(t, "R6: the second", b, at, api.ErrOrder)
			continue
		}
		has(t, "R6: the second", b, lastOf(all[:i], 5)...)
		adds(t, "R6: the second", b, at, api.OK)
	}
	a.Clear()
	has(t, "R6: the other was cleared", b, lastOf(all, 5)...)
	has(t, "R6: cleared", a)
}

// TestGoneTxnsAreNotKept: those that were pushed out, or cleared, or never fitted, are nowhere in the cache.
func TestGoneTxnsAreNotKept(t *testing.T) {
	marked := func(at api.Zxid) api.Txn {
		return api.Txn{Zxid: at, Req: api.Request{Path: fmt.Sprintf("<%d>", at.N)}}
	}
	c, e := cache.NewTxns(2, []api.Txn{marked(z(1, 1)), marked(z(1, 2)), marked(z(1, 3))})
	if e != api.OK || strings.Contains(fmt.Sprintf("%v", *c), "<1>") {
		t.Errorf("P13.4: what does not fit is kept: %d", e)
	}
	c.Add(marked(z(1, 4)))
	if strings.Contains(fmt.Sprintf("%v", *c), "<2>") {
		t.Error("P13.5: what was pushed out is kept")
	}
	c.Clear()
	if s := fmt.Sprintf("%v", *c); strings.Contains(s, "<3>") || strings.Contains(s, "<4>") {
		t.Error("P13.5: what was cleared is kept")
	}
}
