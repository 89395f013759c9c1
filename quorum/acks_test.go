package quorum_test

import (
	"math"
	"testing"

	"lagoon/api"
	"lagoon/quorum"
)

// TestNewAcks: of each system; it has its System's calls, and nobody has acknowledged anything.
func TestNewAcks(t *testing.T) {
	for _, w := range several() {
		p := begun(t, w)
		p.commits(t, z(0, 0), false)
		looks(t, w, p.a)
		looks(t, w, p.a.System)
	}
}

func TestNewAcksOfNone(t *testing.T) {
	var plain quorum.System
	for _, s := range []*quorum.System{nil, &plain, new(quorum.System), {}} {
		if a, e := quorum.NewAcks(s); a != nil || e != api.ErrArg {
			t.Errorf("P20.3: NewAcks of no System = %v, %d", a, e)
		}
	}
}

// TestPutOfNoServer: refused, and nothing has changed.
func TestPutOfNoServer(t *testing.T) {
	for size := 1; size <= 7; size++ {
		p := begun(t, words{likes(size, 1), likes(size, 0)})
		p.puts(t, int8(size-1), z(2, 2))
		for _, n := range append([]int8{int8(size), int8(size + 1)}, noServers...) {
			p.puts(t, n, z(9, 9))
			p.puts(t, n, z(0, 0))
		}
	}
}

// TestPutNeverFalls: more is taken, the same and less change nothing; by the epoch first.
func TestPutNeverFalls(t *testing.T) {
	rising := []api.Zxid{z(0, 0), z(0, 1), z(0, math.MaxUint32), z(1, 0), z(1, 1), z(1, 2), z(1, 300), z(1, math.MaxUint32), z(2, 0), z(2, 1), z(256, 1), z(math.MaxInt32, 5), z(1<<31, 0), z(math.MaxUint32, 0), z(math.MaxUint32, math.MaxUint32)}
	p := begun(t, words{[]int{1, 0, 1}, likes(3, 0)})
	for i, x := range rising {
		for _, server := range []int8{0, 1, 2} {
			p.puts(t, server, x)
			p.puts(t, server, x)
			for _, less := range rising[:i] {
				p.puts(t, server, less)
			}
			if got, is := p.a.Of(server); got != x || !is {
				t.Errorf("P20.3: Of(%d) = %v, %v, not %v", server, got, is, x)
			}
		}
	}
}

// TestEachTwo: of any two zxids that are put one behind the other the greater one stays.
func TestEachTwo(t *testing.T) {
	some := []uint32{0, 1, 2, 255, 256, math.MaxInt32, 1 << 31, math.MaxUint32}
	var all []api.Zxid
	for _, epoch := range some {
		for _, n := range some {
			all = append(all, z(epoch, n))
		}
	}
	s := made(t, words{[]int{1}, []int{0}})
	for _, a := range all {
		for _, b := range all {
			acks, e := quorum.NewAcks(s)
			if e != api.OK || acks.Put(0, a) != api.OK || acks.Put(0, b) != api.OK {
				t.Fatalf("P20.3: NewAcks, Put(0, %v), Put(0, %v)", a, b)
			}
			want := zxid(max(number(a), number(b)))
			if got, is := acks.Of(0); got != want || !is {
				t.Errorf("P20.3: behind %v and %v Of = %v, %v", a, b, got, is)
			}
			if got, is := acks.Committed(); got != want || !is {
				t.Errorf("P20.4: behind %v and %v Committed = %v, %v", a, b, got, is)
			}
		}
	}
}

// TestZeroIsAcknowledged: who has acknowledged up to zero has acknowledged something.
func TestZeroIsAcknowledged(t *testing.T) {
	p := begun(t, words{[]int{1, 1, 1}, likes(3, 0)})
	p.puts(t, 2, z(0, 0))
	if got, is := p.a.Of(2); got != z(0, 0) || !is {
		t.Errorf("P20.3: Of(2) = %v, %v", got, is)
	}
	p.commits(t, z(0, 0), false)
	p.puts(t, 0, z(1, 1))
	p.commits(t, z(0, 0), true)
	p.puts(t, 2, z(1, 1))
	p.commits(t, z(1, 1), true)
	p.puts(t, 2, z(0, 0))
	p.commits(t, z(1, 1), true)
}

// TestOfNothing: whoever else has acknowledged.
func TestOfNothing(t *testing.T) {
	p := begun(t, words{likes(7, 1), likes(7, 0)})
	for n := range int8(7) {
		for later := n; later < 7; later++ {
			if got, is := p.a.Of(later); got != z(0, 0) || is {
				t.Errorf("P20.3: Of(%d) = %v, %v: it has acknowledged nothing", later, got, is)
			}
		}
		p.puts(t, n, z(7, uint32(n)))
	}
	for _, n := range noServers {
		if got, is := p.a.Of(n); got != z(0, 0) || is {
			t.Errorf("P20.3: Of(%d) = %v, %v: there is none", n, got, is)
		}
	}
}

// TestPutOfOneThatDoesNotCount: it is taken and told, and moves nothing.
func TestPutOfOneThatDoesNotCount(t *testing.T) {
	p := begun(t, words{[]int{0, 1, 0}, []int{0, 0, 5}})
	p.puts(t, 0, z(3, 3))
	p.puts(t, 2, z(4, 4))
	p.commits(t, z(0, 0), false)
	p.puts(t, 1, z(1, 1))
	p.commits(t, z(1, 1), true)
	for server, want := range []api.Zxid{z(3, 3), z(1, 1), z(4, 4)} {
		if got, is := p.a.Of(int8(server)); got != want || !is {
			t.Errorf("P20.3: Of(%d) = %v, %v", server, got, is)
		}
	}
}
