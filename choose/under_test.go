package choose_test

import (
	"math"
	"math/rand/v2"
	"testing"

	"lagoon/choose"
)

func under(t *testing.T, what string, want bool, bytes, image int, factor float64) {
	t.Helper()
	if is := choose.Under(bytes, image, factor); is != want {
		t.Errorf("%s: Under(%d, %d, %v): %t", what, bytes, image, factor, is)
	}
}

func TestUnderExamples(t *testing.T) {
	inf := math.Inf(1)
	for _, factor := range factors() {
		under(t, "P14.2: the example", !math.IsNaN(factor) && !math.IsInf(factor, 0), 0, 0, factor)
	}
	under(t, "P14.2: the example", false, 0, 0, inf)
	under(t, "P14.2: the example", false, 0, 5, math.NaN())
	under(t, "P14.2: the example", true, 0, 5, minusZero())
	under(t, "P14.2: the example", true, -1, 5, 0)
	under(t, "P14.2: the example", true, 1, 1, inf)
}

// TestUnderEdge: just at the product it is, one above it is not.
func TestUnderEdge(t *testing.T) {
	for _, image := range []int{0, 1, 2, 100, 4096, 1 << 30} {
		for _, factor := range []float64{0, minusZero(), 0.5, 1, 1.5, 3, 1 << 20} {
			at := int(math.Floor(factor * float64(image)))
			under(t, "P14.2: one below", true, at-1, image, factor)
			under(t, "P14.2: at", true, at, image, factor)
			under(t, "P14.2: one above", false, at+1, image, factor)
		}
	}
	under(t, "P14.2: between", true, 1, 3, 0.5)
	under(t, "P14.2: between", false, 2, 3, 0.5)
}

// TestUnderNegative: bytes, images and factors below 0 are numbers like others.
func TestUnderNegative(t *testing.T) {
	for _, x := range []struct {
		bytes, image int
		factor       float64
		want         bool
	}{
		{0, -5, 1, false}, {-5, -5, 1, true}, {-4, -5, 1, false}, {-6, -5, 1, true},
		{0, -5, -1, true}, {5, -5, -1, true}, {6, -5, -1, false},
		{0, 5, -1, false}, {-5, 5, -1, true}, {-4, 5, -1, false},
		{0, -5, 0, true}, {0, -5, minusZero(), true}, {1, -5, 0, false}, {-1, -5, minusZero(), true},
		{0, 1, -math.SmallestNonzeroFloat64, false}, {-1, 1, -math.SmallestNonzeroFloat64, true}, {0, -1, -math.SmallestNonzeroFloat64, true},
		{math.MinInt, math.MinInt, 1, true}, {math.MinInt, math.MaxInt, -1, true}, {math.MinInt + 1024, math.MinInt, 1, false},
		{math.MaxInt, math.MinInt, -1, true}, {math.MaxInt, math.MinInt, 1, false}, {math.MinInt, math.MaxInt, 1, true},
	} {
		under(t, "P14.2: below 0", x.want, x.bytes, x.image, x.factor)
	}
}

// TestUnderRounds: what a float64 can't tell apart is the same; the product is rounded, too.
func TestUnderRounds(t *testing.T) {
	const p = 1 << 53
	one := 1.0 // a variable: the quotients below are rounded where they are made, not where they are used
	for _, x := range []struct {
		bytes, image int
		factor       float64
		want         bool
	}{
		{p, p, 1, true}, {p + 1, p, 1, true}, {p + 2, p, 1, false}, {p + 2, p + 1, 1, false}, {p + 3, p + 4, 1, true}, {p + 4, p + 3, 1, true}, {p + 5, p + 4, 1, true}, {p + 6, p + 5, 1, false},
		{-p - 1, -p, 1, true}, {-p, -p - 1, 1, true}, {-p, -p - 2, 1, false},
		{math.MaxInt, math.MaxInt, 1, true}, {math.MaxInt, math.MaxInt - 511, 1, true}, {math.MaxInt, math.MaxInt - 512, 1, false}, {math.MaxInt, 1 << 62, 2, true}, {math.MaxInt, 1 << 62, math.Nextafter(2, 0), false},
		{1, 3, one / 3, true}, {1, 49, one / 49, false}, {1, 10, one / 10, true}, {3, 30, one / 10, true}, {29, 100, 0.29, false}, {28, 100, 0.28, true}, {57, 100, 0.57, false},
	} {
		under(t, "P14.2: rounded", x.want, x.bytes, x.image, x.factor)
	}
}

// TestUnderOverflow: a product beyond the greatest number is an infinity, which all bytes are below, or above.
func TestUnderOverflow(t *testing.T) {
	for _, bytes := range []int{math.MinInt, -1, 0, 1, math.MaxInt} {
		for _, image := range []int{2, 3, 1 << 40, math.MaxInt} {
			under(t, "P14.2: an overflow", true, bytes, image, math.MaxFloat64)
			under(t, "P14.2: an overflow", false, bytes, image, -math.MaxFloat64)
			under(t, "P14.2: an overflow", false, bytes, -image, math.MaxFloat64)
			under(t, "P14.2: an overflow", true, bytes, -image, -math.MaxFloat64)
		}
	}
}

// TestUnderNoNumbers: infinities times anything but 0 are infinities; times 0, and of what is not a number, there is no number.
func TestUnderNoNumbers(t *testing.T) {
	inf := math.Inf(1)
	for _, bytes := range []int{math.MinInt, -1, 0, 1, math.MaxInt} {
		for _, image := range []int{math.MinInt, -1, 0, 1, math.MaxInt} {
			under(t, "P14.2: not a number", false, bytes, image, math.NaN())
			under(t, "P14.2: not a number", false, bytes, image, -math.NaN())
			under(t, "P14.2: an infinity", image > 0, bytes, image, inf)
			under(t, "P14.2: an infinity", image < 0, bytes, image, -inf)
		}
	}
}

// anyInt is of any size and sign, often near an edge.
func anyInt(g *rand.Rand) int {
	n := int(g.Uint64() >> g.IntN(64))
	if g.IntN(3) == 0 {
		n = 1<<g.IntN(63) + g.IntN(5) - 2
	}
	if g.IntN(3) == 0 {
		return -n
	}
	return n
}

// TestUnderAny: many, held against numbers that are reckoned exactly, and rounded then; bytes near the product, too.
func TestUnderAny(t *testing.T) {
	g := rand.New(rand.NewPCG(14, 1))
	all := factors()
	for range 200000 {
		factor := math.Float64frombits(g.Uint64())
		switch g.IntN(5) {
		case 0:
			factor = all[g.IntN(len(all))]
		case 1, 2, 3:
			factor = math.Ldexp(g.Float64(), g.IntN(40)-20)
		}
		bytes, image := anyInt(g), anyInt(g)
		under(t, "P14.2: any numbers", isUnder(bytes, image, factor), bytes, image, factor)
		if near := factor * float64(image); math.Abs(near) < 1<<62 {
			bytes = int(near) + g.IntN(3) - 1
			under(t, "P14.2: near the product", isUnder(bytes, image, factor), bytes, image, factor)
		}
	}
}
