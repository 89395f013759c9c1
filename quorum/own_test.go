package quorum_test

import (
	"math"
	"slices"
	"testing"

	"lagoon/api"
	"lagoon/quorum"
)

// TestListsAreNotKept: what is done with them behind New, in their spare room too, changes nothing of the System.
func TestListsAreNotKept(t *testing.T) {
	for _, w := range several() {
		lists := words{slices.Clone(w.weights), slices.Clone(w.groups)}
		p := of(t, w, made(t, lists))
		for n := range lists.weights {
			lists.weights[n], lists.groups[n] = 100-n, 6-lists.groups[n]
			looks(t, w, p.s)
		}
		clear(lists.weights)
		looks(t, w, p.s)
		looks(t, w, p.a)
		p.puts(t, 0, z(1, 1))
	}
}

// TestListsAreNotChanged: neither by New that takes them nor by one that refuses them, their spare room neither.
func TestListsAreNotChanged(t *testing.T) {
	for _, w := range append(several(), words{[]int{1, 101}, []int{0, 0}}, words{[]int{0, 0}, []int{0, 1}}, words{[]int{1, 1}, []int{6, 7}}, words{likes(8, 1), likes(8, 1)}) {
		roomy := func(l []int) []int { return append(append(make([]int, 0, 30), l...), likes(30-len(l), -77)...) }
		weights, groups := roomy(w.weights), roomy(w.groups)
		s, _ := quorum.New(weights[:len(w.weights)], groups[:len(w.groups)])
		if !slices.Equal(weights, roomy(w.weights)) || !slices.Equal(groups, roomy(w.groups)) {
			t.Errorf("P20.5: New changed %v to %v, %v", w, weights, groups)
		}
		clear(weights)
		clear(groups)
		if s != nil {
			looks(t, w, s)
		}
	}
}

// TestOneListForBoth: the weights may be the groups, too.
func TestOneListForBoth(t *testing.T) {
	l := []int{0, 1, 2, 6, 6, 2, 0}
	looks(t, words{slices.Clone(l), slices.Clone(l)}, made(t, words{l, l}))
}

// TestNoSystem: a nil System, and one that New did not make, tell nothing.
func TestNoSystem(t *testing.T) {
	var plain quorum.System
	for _, s := range []*quorum.System{nil, &plain, new(quorum.System)} {
		if n := s.Size(); n != 0 {
			t.Errorf("P20.5: no System has the size %d", n)
		}
		for n := range 256 {
			if s.Counts(int8(n)) || s.Has(uint8(n)) || s.Least(uint8(n)) {
				t.Errorf("P20.5: no System tells something of %d", n)
			}
		}
	}
}

// TestNoAcks: a nil Acks, and one that NewAcks did not make, tell nothing and take nothing; be there a System in it.
func TestNoAcks(t *testing.T) {
	one, three := made(t, words{[]int{1}, []int{0}}), made(t, words{likes(3, 1), likes(3, 0)})
	var plain quorum.Acks
	for i, a := range []*quorum.Acks{nil, &plain, new(quorum.Acks), {System: one}, {System: three}, {System: &quorum.System{}}} {
		for range 2 {
			for _, n := range append([]int8{0, 1, 2, 3}, noServers...) {
				for _, x := range []api.Zxid{z(0, 0), z(1, 1), z(math.MaxUint32, math.MaxUint32)} {
					if e := a.Put(n, x); e != api.ErrArg {
						t.Errorf("P20.5: Put(%d, %v) of no Acks (%d) = %d", n, x, i, e)
					}
				}
				if got, is := a.Of(n); got != z(0, 0) || is {
					t.Errorf("P20.5: Of(%d) of no Acks (%d) = %v, %v", n, i, got, is)
				}
			}
			if got, is := a.Committed(); got != z(0, 0) || is {
				t.Errorf("P20.5: Committed of no Acks (%d) = %v, %v", i, got, is)
			}
		}
	}
	looks(t, words{likes(3, 1), likes(3, 0)}, three)
}
