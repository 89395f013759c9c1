package choose_test

import (
	"math"
	"slices"
	"testing"

	"lagoon/api"
)

// exampleLog is the examples' log.
func exampleLog(t *testing.T) []api.Txn { return logOf(t, z(1, 1), z(1, 2), z(2, 1)) }

func TestTable(t *testing.T) {
	for _, x := range []struct {
		peer   api.Zxid
		cached int
		want   api.Choice
	}{
		{z(2, 1), 0, sent(api.ByDiff, z(2, 1), true)},
		{z(1, 2), 1, sent(api.ByDiff, z(1, 2), true)},
		{z(1, 2), 0, sent(api.ByDiff, z(1, 2), false)},
		{z(1, 1), 1, bySnap()},
		{z(1, 1), 2, sent(api.ByDiff, z(1, 1), true)},
		{z(1, 9), 1, sent(api.ByTruncDiff, z(1, 2), true)},
		{z(3, 7), 0, sent(api.ByTrunc, z(2, 1), true)},
		{z(0, 0), 3, sent(api.ByDiff, z(0, 0), true)},
	} {
		chooses(t, "P14.1: the table", x.want, x.peer, z(0, 0), exampleLog(t), x.cached, 100, 0.5)
	}
}

func TestBelowTheTable(t *testing.T) {
	l := exampleLog(t)
	for cached := range 4 {
		chooses(t, "P14.1: the example", bySnap(), z(0, 0), z(1, 0), l, cached, 100, 0.5)
	}
	refuses(t, "P14.1: the example", z(0, 0), z(0, 0), l, 4, 100, 0.5)
	refuses(t, "P14.1: the example", z(0, 0), z(0, 0), logOf(t, z(1, 2), z(1, 1)), 0, 100, 0.5)
}

// TestNotRising: at each place, by a zxid that is the one ahead, or below it; the first is held against snap. Nothing else of the question is looked at then.
func TestNotRising(t *testing.T) {
	for _, snap := range snaps() {
		whole := rising(snap, 7)
		for i := range whole {
			ahead := snap
			if i > 0 {
				ahead = whole[i-1]
			}
			for _, bad := range []api.Zxid{{}, ahead, {Epoch: ahead.Epoch, N: ahead.N / 2}, {Epoch: ahead.Epoch / 2, N: ahead.N}} {
				l := slices.Clone(whole)
				l[i] = bad
				for _, peer := range []api.Zxid{{}, snap, bad, whole[6], z(99, 9)} {
					refuses(t, "P14.1: it does not rise", peer, snap, logOfAny(l...), 7, 1000, 1)
					refuses(t, "P14.1: it does not rise", peer, snap, logOfAny(l...), 0, 1000, 1)
				}
			}
		}
	}
}

// TestFirstAtSnap: what stands in the log is above the snapshot, be it one transaction or more.
func TestFirstAtSnap(t *testing.T) {
	for _, snap := range snaps() {
		for n := range 3 {
			refuses(t, "P14.1: the first is at snap", snap, snap, logOfAny(append([]api.Zxid{snap}, rising(snap, n)...)...), 0, 1000, 1)
		}
		for _, first := range []api.Zxid{z(snap.Epoch, snap.N-1), z(snap.Epoch-1, snap.N)} {
			if below(first, snap) {
				refuses(t, "P14.1: the first is below snap", snap, snap, logOfAny(first, z(99, 1)), 0, 1000, 1)
			} else {
				chooses(t, "P14.1: the first is above snap", sent(api.ByDiff, snap, true), snap, snap, []api.Txn{{Zxid: first}}, 1, 0, 0)
			}
		}
	}
}

// TestAnyThatRise: zxids of any numbers are as good, and what the transactions are beside them.
func TestAnyThatRise(t *testing.T) {
	l := []api.Zxid{z(0, 3), z(1, 0), z(1, math.MaxUint32), z(2, 0), z(1<<31, 5), z(math.MaxUint32, 0), z(math.MaxUint32, math.MaxUint32)}
	for i, at := range l {
		chooses(t, "P14.1: any that rise", sent(api.ByDiff, at, i == 6), at, z(0, 2), logOfAny(l...), 0, 0, 1)
	}
	chooses(t, "P14.1: any that rise", sent(api.ByTruncDiff, z(2, 0), true), z(1<<31, 4), z(0, 2), logOfAny(l...), 3, 0, 0)
}

// TestCached: from none up to all of the log it may be, and is refused beside that.
func TestCached(t *testing.T) {
	for _, n := range []int{0, 1, 2, 7} {
		l := logOf(t, rising(z(1, 1), n)...)
		for _, peer := range []api.Zxid{z(0, 0), z(1, 1), z(2, 2), z(2, 3), z(99, 9)} {
			for _, cached := range []int{math.MinInt, -7, -2, -1, n + 1, n + 2, 64, math.MaxInt} {
				refuses(t, "P14.1: cached", peer, z(1, 1), l, cached, 1000, 1)
			}
			for _, cached := range []int{0, n / 2, n} {
				chooses(t, "P14.1: cached", chosen(peer, z(1, 1), l, cached, 1000, 1), peer, z(1, 1), l, cached, 1000, 1)
			}
		}
	}
}

// TestImage: below 0 it is refused, whether it is asked for or not; 0 and all above it are bytes.
func TestImage(t *testing.T) {
	l := logOf(t, z(1, 1), z(1, 2))
	for _, peer := range []api.Zxid{z(0, 0), z(0, 5), z(1, 1), z(1, 2), z(9, 9)} {
		for cached := range 3 {
			for _, image := range []int{-1, -2, -100, math.MinInt} {
				refuses(t, "P14.1: image", peer, z(0, 5), l, cached, image, 1)
				refuses(t, "P14.1: image", peer, z(0, 5), l, cached, image, -1)
			}
		}
	}
	chooses(t, "P14.1: image 0", bySnap(), z(1, 1), z(0, 5), l, 0, 0, 1)
	chooses(t, "P14.1: image 0", sent(api.ByDiff, z(1, 1), true), z(1, 1), z(0, 5), l, 1, 0, 1)
	chooses(t, "P14.1: image 0", sent(api.ByDiff, z(1, 2), true), z(1, 2), z(0, 5), l, 0, 0, 1)
	chooses(t, "P14.1: image 1", bySnap(), z(1, 1), z(0, 5), l, 0, 1, 1)
	chooses(t, "P14.1: a great image", sent(api.ByDiff, z(1, 1), false), z(1, 1), z(0, 5), l, 0, math.MaxInt, 1)
}

// TestBelowSnap: all that a follower lacks is not in the log, so nothing that is at hand helps, nor any measure.
func TestBelowSnap(t *testing.T) {
	for _, n := range []int{0, 1, 4} {
		for _, snap := range snaps() {
			l := logOf(t, rising(snap, n)...)
			for _, peer := range around(snap) {
				if !below(peer, snap) {
					continue
				}
				for _, factor := range factors() {
					chooses(t, "P14.1: below snap", bySnap(), peer, snap, l, n, math.MaxInt, factor)
					chooses(t, "P14.1: below snap", bySnap(), peer, snap, l, 0, 0, factor)
				}
			}
		}
	}
}

// TestPeers: below, at, between and above each zxid that stands in histories of several lengths, an empty log among them; with each number at hand.
func TestPeers(t *testing.T) {
	for _, snap := range snaps() {
		for n := range 8 {
			all := rising(snap, n)
			l := logOf(t, all...)
			for _, peer := range around(append(all, snap)...) {
				for cached := range n + 1 {
					for _, image := range []int{0, 50, 100, 101, 700} {
						for _, factor := range []float64{0, 0.5, 1, 2.25, math.NaN()} {
							chooses(t, "P14.1: any peer", chosen(peer, snap, l, cached, image, factor), peer, snap, l, cached, image, factor)
						}
					}
				}
			}
		}
	}
}

// TestFrom: told one by one, of a snapshot's zxid that is none and one that is.
func TestFrom(t *testing.T) {
	for _, x := range []struct {
		peer, snap api.Zxid
		want       api.Choice
	}{
		{z(0, 0), z(0, 0), sent(api.ByDiff, z(0, 0), true)},
		{z(0, 1), z(0, 0), sent(api.ByTruncDiff, z(0, 0), true)},
		{z(2, 2), z(0, 0), sent(api.ByTruncDiff, z(0, 0), true)},
		{z(2, 2), z(2, 2), sent(api.ByDiff, z(2, 2), true)},
		{z(2, 1), z(2, 2), bySnap()},
		{z(1, 9), z(2, 2), bySnap()},
		{z(2, 3), z(2, 2), sent(api.ByDiff, z(2, 3), true)},
		{z(2, 4), z(2, 2), sent(api.ByTruncDiff, z(2, 3), true)},
		{z(3, 0), z(2, 2), sent(api.ByTruncDiff, z(2, 3), true)},
		{z(3, 4), z(2, 2), sent(api.ByTruncDiff, z(2, 3), true)},
		{z(3, 5), z(2, 2), sent(api.ByDiff, z(3, 5), true)},
		{z(3, 6), z(2, 2), sent(api.ByTrunc, z(3, 5), true)},
		{z(4, 0), z(2, 2), sent(api.ByTrunc, z(3, 5), true)},
	} {
		chooses(t, "P14.1: From", x.want, x.peer, x.snap, logOf(t, z(2, 3), z(3, 5)), 2, 0, 0)
	}
}

// TestEmptyLog: the snapshot's zxid is all that stands there, and there is nothing to send.
func TestEmptyLog(t *testing.T) {
	for _, snap := range snaps() {
		for _, factor := range factors() {
			chooses(t, "P14.1: an empty log", sent(api.ByDiff, snap, true), snap, snap, nil, 0, 0, factor)
			for _, peer := range around(snap) {
				if below(snap, peer) {
					chooses(t, "P14.1: an empty log", sent(api.ByTrunc, snap, true), peer, snap, nil, 0, 0, factor)
				}
			}
		}
	}
}

// TestEmptyRest: it is at hand, though nothing is; no measure is asked for.
func TestEmptyRest(t *testing.T) {
	l := exampleLog(t)
	for _, factor := range factors() {
		for cached := range 4 {
			for _, image := range []int{0, 1, 1000} {
				chooses(t, "P14.1: an empty rest", sent(api.ByDiff, z(2, 1), true), z(2, 1), z(0, 0), l, cached, image, factor)
				chooses(t, "P14.1: an empty rest", sent(api.ByTrunc, z(2, 1), true), z(2, 2), z(0, 0), l, cached, image, factor)
			}
		}
	}
}

// TestAtHand: a rest of each length is at hand whole, with more than it, one short of it, or not at all.
func TestAtHand(t *testing.T) {
	snap := z(1, 1)
	all := append([]api.Zxid{snap}, rising(snap, 9)...)
	l := logOf(t, all[1:]...)
	for i, from := range all {
		rest := 9 - i
		for cached := range 10 {
			is := rest <= cached
			chooses(t, "P14.1: at hand or under", sent(api.ByDiff, from, is), from, snap, l, cached, 450, 1)
			want := bySnap()
			if is {
				want = sent(api.ByDiff, from, true)
			}
			chooses(t, "P14.1: at hand or not", want, from, snap, l, cached, 450, math.NaN())
		}
	}
}
