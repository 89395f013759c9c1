package choose_test

import (
	"math"
	"testing"

	"lagoon/api"
)

// TestAtTheMeasure: a rest's bytes are one below, just at and one above the measure; of each length, whichever of its transactions it is that differs.
func TestAtTheMeasure(t *testing.T) {
	all := append([]api.Zxid{{}}, rising(z(0, 0), 6)...)
	for i := range 6 {
		for odd := i; odd < 6; odd++ {
			for more := -1; more <= 1; more++ {
				l := logOf(t, all[1:]...)
				l[odd] = sized(t, l[odd].Zxid, 50+more)
				rest := 50 * (6 - i)
				want := sent(api.ByDiff, all[i], false)
				if more > 0 {
					want = bySnap()
				}
				for _, times := range []int{1, 2, 4, 8} {
					chooses(t, "P14.1: at the measure", want, all[i], z(0, 0), l, 0, rest*times, 1/float64(times))
				}
				chooses(t, "P14.1: at the measure, one short of at hand", want, all[i], z(0, 0), l, 5-i, rest/2, 2)
			}
		}
	}
}

// TestTheRestCounts: what the follower has is not sent, and does not count; what is at hand counts, where not all of the rest is.
func TestTheRestCounts(t *testing.T) {
	l := []api.Txn{sized(t, z(1, 1), mostSize), sized(t, z(1, 2), mostSize), sized(t, z(1, 5), 60), sized(t, z(1, 6), 61)}
	for cached := range 2 {
		chooses(t, "P14.1: the rest", sent(api.ByDiff, z(1, 2), false), z(1, 2), z(0, 0), l, cached, 121, 1)
		chooses(t, "P14.1: the rest", bySnap(), z(1, 2), z(0, 0), l, cached, 120, 1)
		chooses(t, "P14.1: the rest", sent(api.ByTruncDiff, z(1, 2), false), z(1, 4), z(0, 0), l, cached, 121, 1)
		chooses(t, "P14.1: the rest", bySnap(), z(1, 4), z(0, 0), l, cached, 120, 1)
	}
}

// TestRefusedInTheRest: one that layer 4 refuses has no bytes, at whichever place; it is there all the same.
func TestRefusedInTheRest(t *testing.T) {
	for at := range 4 {
		l := logOf(t, rising(z(0, 0), 4)...)
		l[at] = refused(t, l[at].Zxid)
		chooses(t, "P14.1: one that is refused", sent(api.ByDiff, z(0, 0), false), z(0, 0), z(0, 0), l, 3, 150, 1)
		chooses(t, "P14.1: one that is refused", bySnap(), z(0, 0), z(0, 0), l, 3, 149, 1)
		chooses(t, "P14.1: one that is refused", sent(api.ByDiff, l[at].Zxid, at == 3), l[at].Zxid, z(0, 0), l, 0, 150, 1)
	}
}

// TestAllRefused: no bytes are sent, and that is under an image just where the product is a number that is not below 0.
func TestAllRefused(t *testing.T) {
	l := []api.Txn{refused(t, z(1, 1)), refused(t, z(1, 2))}
	inf := math.Inf(1)
	for _, x := range []struct {
		image  int
		factor float64
		want   bool
	}{
		{0, 1, true}, {0, 0, true}, {0, minusZero(), true}, {0, -1, true}, {0, inf, false}, {0, -inf, false}, {0, math.NaN(), false},
		{9, 1, true}, {9, 0, true}, {9, minusZero(), true}, {9, -1, false}, {9, inf, true}, {9, -inf, false}, {9, math.NaN(), false},
	} {
		want := bySnap()
		if x.want {
			want = sent(api.ByDiff, z(0, 0), false)
		}
		chooses(t, "P14.1: all are refused", want, z(0, 0), z(0, 0), l, 1, x.image, x.factor)
		chooses(t, "P14.1: all are refused, but at hand", sent(api.ByDiff, z(0, 0), true), z(0, 0), z(0, 0), l, 2, x.image, x.factor)
	}
}

// TestFactors: of a rest of 100 bytes and an image of 200.
func TestFactors(t *testing.T) {
	inf := math.Inf(1)
	l := logOf(t, z(1, 1), z(1, 5), z(2, 1))
	for _, x := range []struct {
		factor float64
		want   bool
	}{
		{math.NaN(), false}, {0, false}, {minusZero(), false}, {-1, false}, {-inf, false}, {-math.MaxFloat64, false}, {inf, true},
		{math.SmallestNonzeroFloat64, false}, {1e-300, false}, {0.25, false}, {math.Nextafter(0.5, 0), false}, {0.5, true}, {math.Nextafter(0.5, 1), true},
		{1, true}, {2, true}, {1e300, true}, {math.MaxFloat64, true},
	} {
		diff, both := bySnap(), bySnap()
		if x.want {
			diff, both = sent(api.ByDiff, z(1, 1), false), sent(api.ByTruncDiff, z(1, 1), false)
		}
		for cached := range 2 {
			chooses(t, "P14.1: a factor", diff, z(1, 1), z(0, 0), l, cached, 200, x.factor)
			chooses(t, "P14.1: a factor", both, z(1, 4), z(0, 0), l, cached, 200, x.factor)
		}
		chooses(t, "P14.1: a factor, and all at hand", sent(api.ByDiff, z(1, 1), true), z(1, 1), z(0, 0), l, 2, 200, x.factor)
		chooses(t, "P14.1: a factor, and all at hand", sent(api.ByTruncDiff, z(1, 1), true), z(1, 4), z(0, 0), l, 2, 200, x.factor)
	}
}

// TestNoImage: of a tree without bytes a product is nought, or not a number.
func TestNoImage(t *testing.T) {
	for _, factor := range factors() {
		chooses(t, "P14.1: no image", bySnap(), z(1, 1), z(0, 0), exampleLog(t), 1, 0, factor)
		chooses(t, "P14.1: no image", sent(api.ByDiff, z(1, 1), true), z(1, 1), z(0, 0), exampleLog(t), 2, 0, factor)
	}
}
