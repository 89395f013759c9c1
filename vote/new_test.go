package vote_test

import (
	"testing"

	"lagoon/api"
	"lagoon/quorum"
	"lagoon/vote"
)

// TestNewOfEachNumber: each server that counts has a voter, no other number.
func TestNewOfEachNumber(t *testing.T) {
	for _, w := range several() {
		s := made(t, w)
		for n := range 256 {
			me := int8(n - 128)
			if w.counts(me) {
				of(t, w, s, me, 4, z(3, 2))
				continue
			}
			if v, e := vote.New(s, me, 4, z(3, 2)); v != nil || e != api.ErrArg {
				t.Errorf("P21.2: %v: New(%d) = %v, %d", w, me, v, e)
			}
		}
	}
}

func TestNewOfNoSystem(t *testing.T) {
	var plain quorum.System
	for i, s := range []*quorum.System{nil, &plain, new(quorum.System), {}} {
		for _, me := range append([]int8{0, 1, 3, 6}, noServers...) {
			if v, e := vote.New(s, me, 1, z(1, 1)); v != nil || e != api.ErrArg {
				t.Errorf("P21.2: New of no System (%d), %d = %v, %d", i, me, v, e)
			}
		}
	}
}

// TestNewTakesAnyHistory: its vote tells the current epoch and the last zxid as it was told.
func TestNewTakesAnyHistory(t *testing.T) {
	for _, current := range ends {
		for _, epoch := range ends {
			for _, n := range ends {
				p := voter(t, four(), 2, current, z(epoch, n))
				p.votes(t, x(2, current, z(epoch, n), 0))
				p.begins(t)
				p.votes(t, x(2, current, z(epoch, n), 1))
			}
		}
	}
}

// TestAheadOfTheFirstBegin: there is a vote, and no leader, even where the server is a quorum by itself.
func TestAheadOfTheFirstBegin(t *testing.T) {
	for _, w := range []words{{[]int{1}, []int{0}}, {[]int{3, 1, 1}, likes(3, 0)}, four()} {
		p := voter(t, w, 0, 7, z(5, 6))
		p.votes(t, x(0, 7, z(5, 6), 0))
		p.nobody(t)
	}
}

// TestItsSystem is the one that was handed in, and its calls are the System's.
func TestItsSystem(t *testing.T) {
	for _, w := range several() {
		s := made(t, w)
		for _, me := range w.voters(255) {
			v := of(t, w, s, me, 1, z(1, 1)).v
			if v.System != s || v.Size() != s.Size() {
				t.Errorf("P21.2: %v: its System is %v, of %d", w, v.System, v.Size())
			}
			for n := range 256 {
				server, set := int8(n-128), uint8(n)
				if v.Counts(server) != s.Counts(server) || v.Has(set) != s.Has(set) || v.Least(set) != s.Least(set) {
					t.Errorf("P21.2: %v: Counts(%d), Has(%08b), Least = %v, %v, %v", w, server, set, v.Counts(server), v.Has(set), v.Least(set))
				}
			}
		}
	}
}
