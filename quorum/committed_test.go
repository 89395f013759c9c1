package quorum_test

import (
	"testing"
)

// TestLessThanAQuorum: with every set of servers that has put one zxid it is committed just if the set is a quorum.
func TestLessThanAQuorum(t *testing.T) {
	for _, w := range several() {
		s := made(t, w)
		for set := range int(w.all()) + 1 {
			p := of(t, w, s)
			for n := range int8(len(w.weights)) {
				if set>>n&1 == 1 {
					p.puts(t, n, z(4, 2))
				}
			}
			if w.isQuorum(uint8(set)) {
				p.commits(t, z(4, 2), true)
			} else {
				p.commits(t, z(0, 0), false)
			}
		}
		if t.Failed() {
			return
		}
	}
}

// TestEqualZxids: those that have the same one stand together.
func TestEqualZxids(t *testing.T) {
	p := begun(t, words{likes(5, 1), likes(5, 0)})
	p.puts(t, 4, z(1, 7))
	p.puts(t, 0, z(1, 7))
	p.commits(t, z(0, 0), false)
	p.puts(t, 2, z(1, 6))
	p.commits(t, z(1, 6), true)
	p.puts(t, 3, z(1, 6))
	p.commits(t, z(1, 6), true)
	p.puts(t, 1, z(1, 7))
	p.commits(t, z(1, 7), true)
	p.puts(t, 2, z(1, 7))
	p.puts(t, 3, z(1, 7))
	p.commits(t, z(1, 7), true)
}

// TestMostByOneThatDoesNotCount: what it alone has is not committed, wherever it stands.
func TestMostByOneThatDoesNotCount(t *testing.T) {
	for at := range 3 {
		w := words{likes(3, 1), likes(3, 0)}
		w.weights[at] = 0
		a, b := int8((at+1)%3), int8((at+2)%3)
		p := begun(t, w)
		p.puts(t, int8(at), z(9, 9))
		p.puts(t, a, z(1, 4))
		p.commits(t, z(0, 0), false)
		p.puts(t, b, z(1, 2))
		p.commits(t, z(1, 2), true)
		p.puts(t, b, z(9, 9))
		p.commits(t, z(1, 4), true)
		p.puts(t, a, z(9, 9))
		p.commits(t, z(9, 9), true)
	}
}

// TestBetweenByOneThatDoesNotCount: its zxid stands between those of the two that count.
func TestBetweenByOneThatDoesNotCount(t *testing.T) {
	p := begun(t, words{[]int{1, 1, 0}, likes(3, 0)})
	p.puts(t, 0, z(1, 2))
	p.puts(t, 1, z(1, 6))
	p.puts(t, 2, z(1, 4))
	p.commits(t, z(1, 2), true)
	// and between what is committed and what is not
	p.puts(t, 0, z(1, 5))
	p.commits(t, z(1, 5), true)
}

// TestByEpochFirst: a later epoch is above every counter of an earlier one.
func TestByEpochFirst(t *testing.T) {
	p := begun(t, words{likes(3, 1), likes(3, 0)})
	p.puts(t, 0, z(2, 1))
	p.puts(t, 1, z(1, 900))
	p.commits(t, z(1, 900), true)
	p.puts(t, 2, z(2, 3))
	p.commits(t, z(2, 1), true)
	p.puts(t, 1, z(3, 0))
	p.commits(t, z(2, 3), true)
}

// TestByWeights: a heavy server commits alone; the light ones never without it.
func TestByWeights(t *testing.T) {
	p := begun(t, words{[]int{1, 3, 1}, likes(3, 4)})
	p.puts(t, 0, z(1, 9))
	p.puts(t, 2, z(1, 9))
	p.commits(t, z(0, 0), false)
	p.puts(t, 1, z(1, 1))
	p.commits(t, z(1, 1), true)
	p.puts(t, 1, z(2, 1))
	p.commits(t, z(2, 1), true)
}

// TestByGroups: two of three groups, in each more than half.
func TestByGroups(t *testing.T) {
	p := begun(t, words{likes(6, 1), []int{0, 0, 2, 2, 5, 5}})
	for n, server := range []int8{0, 2, 4} {
		p.puts(t, server, z(1, uint32(10+n)))
	}
	p.commits(t, z(0, 0), false)
	p.puts(t, 5, z(1, 3))
	p.commits(t, z(0, 0), false)
	p.puts(t, 3, z(1, 5))
	p.commits(t, z(1, 3), true)
	p.puts(t, 1, z(1, 4))
	p.commits(t, z(1, 4), true)
	p.puts(t, 5, z(1, 20))
	p.commits(t, z(1, 5), true)
	p.puts(t, 3, z(1, 20))
	p.commits(t, z(1, 11), true)
}

// TestFirstIsLeftOut: the servers' numbers say nothing: each three of five commit the least of theirs.
func TestFirstIsLeftOut(t *testing.T) {
	w := words{likes(5, 1), likes(5, 0)}
	s := made(t, w)
	for a := range int8(5) {
		for b := range int8(5) {
			for c := range int8(5) {
				if a == b || b == c || a == c {
					continue
				}
				p := of(t, w, s)
				p.puts(t, a, z(3, 3))
				p.puts(t, b, z(2, 9))
				p.puts(t, c, z(2, 4))
				p.commits(t, z(2, 4), true)
			}
		}
	}
}
