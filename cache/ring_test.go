package cache_test

import (
	"fmt"
	"math"
	"slices"
	"strings"
	"testing"

	"lagoon/api"
	"lagoon/cache"
)

func TestFirstExample(t *testing.T) {
	r := ring[int8](t, 2, 5, 6, 7)
	holds(t, "P13.2: 5, 6, 7", r, 6, 7)
	all := r.All()
	r.Put(8)
	gives(t, "P13.3: ahead of 8", all, 6, 7)
	holds(t, "P13.2: 8", r, 7, 8)
	r.Clear()
	holds(t, "P13.2: Clear", r)
	gives(t, "P13.3: ahead of Clear", all, 6, 7)
}

func TestSecondExample(t *testing.T) {
	holds(t, "P13.2: of at most none", ring(t, 0, 5))
	for _, most := range []int{-1, 65} {
		if r, e := cache.NewRing[int](most); r != nil || e != api.ErrArg {
			t.Errorf("P13.1: NewRing(%d): %v, %d", most, r != nil, e)
		}
	}
}

// TestNewRing: of every number that may be, an empty one; of others none.
func TestNewRing(t *testing.T) {
	for most := 0; most <= api.MaxCache; most++ {
		holds(t, "P13.1: a new ring", ring[int](t, most))
	}
	for _, most := range noMosts {
		if r, e := cache.NewRing[string](most); r != nil || e != api.ErrArg {
			t.Errorf("P13.1: NewRing(%d): %v, %d", most, r != nil, e)
		}
	}
}

// TestPut: up to most, at it, and several times round, every ring.
func TestPut(t *testing.T) {
	for most := 0; most <= api.MaxCache; most++ {
		r := ring[int](t, most)
		for n := 1; n <= 3*most+4; n++ {
			r.Put(n)
			holds(t, fmt.Sprintf("P13.2: %d put into %d", n, most), r, lastOf(counted(1, n), most)...)
		}
	}
}

// TestPutTheSame: things that are the same are things all the same, zero ones too.
func TestPutTheSame(t *testing.T) {
	holds(t, "P13.2: the same", ring(t, 3, 0, 7, 7, 0, 0), 7, 0, 0)
}

// TestAtChangesNothing: nor does Len, nor All.
func TestAtChangesNothing(t *testing.T) {
	r := ring(t, 3, counted(1, 5)...)
	for range 3 {
		holds(t, "P13.2: asked again", r, 3, 4, 5)
	}
}

// TestClear: of an empty, a filling, a full ring, and of rings that have gone round, each at every place; and Puts behind it.
func TestClear(t *testing.T) {
	for _, most := range []int{0, 1, 2, 3, 5, api.MaxCache} {
		for n := range 3*most + 2 {
			r := ring(t, most, counted(1, n)...)
			for range 2 {
				r.Clear()
				holds(t, fmt.Sprintf("P13.2: Clear behind %d put into %d", n, most), r)
			}
			for k := 1; k <= 2*most+1; k++ {
				r.Put(100 + k)
				holds(t, fmt.Sprintf("P13.2: %d put into %d behind Clear behind %d", k, most, n), r, lastOf(counted(101, k), most)...)
			}
		}
	}
}

// TestTwoRings: of one type, in turns: they know nothing of each other.
func TestTwoRings(t *testing.T) {
	a, b := ring[int](t, 3), ring[int](t, 5)
	for n := 1; n <= 20; n++ {
		a.Put(n)
		holds(t, "R6: the first", a, lastOf(counted(1, n), 3)...)
		holds(t, "R6: the second", b, lastOf(counted(1001, n-1), 5)...)
		b.Put(1000 + n)
	}
	a.Clear()
	holds(t, "R6: the other was cleared", b, counted(1016, 5)...)
	a.Put(7)
	b.Clear()
	holds(t, "R6: the other was cleared", a, 7)
}

// TestUnlikeTypes: whatever the things are.
func TestUnlikeTypes(t *testing.T) {
	holds(t, "P13.2: texts", ring(t, 2, "a", "", "c"), "", "c")
	holds(t, "P13.2: truths", ring(t, 2, true, false, true), false, true)
	holds(t, "P13.2: nothings", ring(t, 2, struct{}{}, struct{}{}, struct{}{}), struct{}{}, struct{}{})
	holds(t, "P13.2: zxids", ring(t, 1, z(1, 2), z(1, 1)), z(1, 1))
	holds(t, "P13.2: arrays", ring(t, 2, [2]int8{1, 2}, [2]int8{3, 4}), [2]int8{1, 2}, [2]int8{3, 4})
	holds[any](t, "P13.2: anything", ring[any](t, 3, 1, "a", nil, 2.5), "a", nil, 2.5)
	one, two := 1, 2
	holds(t, "P13.2: pointers", ring(t, 2, nil, &one, &two), &one, &two)
	f, _ := ring(t, 1, math.NaN()).At(0)
	if !math.IsNaN(f) {
		t.Errorf("P13.2: what is not a number: %v", f)
	}
	fs := ring(t, 1, func() int { return 5 }, func() int { return 6 })
	if got, is := fs.At(0); !is || got() != 6 {
		t.Errorf("P13.2: functions: %t", is)
	}
	if got, is := fs.At(1); is || got != nil {
		t.Errorf("P13.2: functions: At(1): %t", is)
	}
}

// TestRingOfRings: a thing may be a ring, and is the same one then.
func TestRingOfRings(t *testing.T) {
	in := ring(t, 2, 5)
	out := ring(t, 1, ring[int](t, 2), in)
	got, _ := out.At(0)
	got.Put(6)
	holds(t, "P13.2: the ring in a ring", in, 5, 6)
}

// noRings are rings that NewRing did not make.
func noRings() []*cache.Ring[string] {
	return []*cache.Ring[string]{nil, {}, new(cache.Ring[string])}
}

// TestNoRing: nothing is in such a one, whatever is done to it.
func TestNoRing(t *testing.T) {
	for _, r := range noRings() {
		holds(t, "P13.2: no ring", r)
		walk := r.All()
		for range 3 {
			r.Put("x")
			holds(t, "P13.2: no ring, put into", r)
		}
		r.Clear()
		holds(t, "P13.2: no ring, cleared", r)
		r.Put("y")
		holds(t, "P13.2: no ring, put into again", r)
		gives(t, "P13.2: no ring's walk", walk)
	}
}

// TestThingsShare: what a thing holds of memory is the same where it was put, in the ring, and where it is given out.
func TestThingsShare(t *testing.T) {
	in := []int{1, 2}
	r := ring(t, 3, in)
	walk := r.All()
	out, _ := r.At(0)
	in[0] = 7
	out[1] = 8
	again, _ := r.At(0)
	for _, x := range walk {
		if !slices.Equal(in, []int{7, 8}) || !slices.Equal(out, in) || !slices.Equal(x, in) || !slices.Equal(again, in) {
			t.Errorf("P13.2: %v, %v, %v, %v", in, out, x, again)
		}
		x[0] = 9
	}
	if in[0] != 9 || out[0] != 9 || again[0] != 9 {
		t.Errorf("P13.3: %v, %v, %v", in, out, again)
	}
}

// TestThingsAreValues: the thing itself is the ring's own: who writes over what he put, or was given, writes over that alone.
func TestThingsAreValues(t *testing.T) {
	in := [2]int{1, 2}
	r := ring(t, 3, in)
	in[0] = 7
	out, _ := r.At(0)
	out[1] = 8
	for _, x := range r.All() {
		x[0] = 9
	}
	holds(t, "R5: a thing", r, [2]int{1, 2})
}

// TestGoneIsNotKept: what was pushed out, or cleared, is nowhere in the ring any more.
func TestGoneIsNotKept(t *testing.T) {
	for _, most := range []int{0, 1, 2, 3, api.MaxCache} {
		r := ring(t, most, "gone", "gone")
		for range most {
			r.Put("stays")
		}
		if strings.Contains(fmt.Sprintf("%v", *r), "gone") {
			t.Errorf("P13.2: a ring of %d keeps what was pushed out", most)
		}
		r.Put("stays")
		r.Clear()
		if strings.Contains(fmt.Sprintf("%v", *r), "stays") {
			t.Errorf("P13.2: a ring of %d keeps what was cleared", most)
		}
	}
}
