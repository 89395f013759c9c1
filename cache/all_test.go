package cache_test

import (
	"fmt"
	"iter"
	"testing"

	"lagoon/api"
)

// shapes calls f for rings that are empty, filling, full, and gone round to every place.
func shapes(t *testing.T, f func(most, n int)) {
	t.Helper()
	for _, most := range []int{0, 1, 2, 3, 4, api.MaxCache} {
		for n := range 2*most + 2 {
			f(most, n)
		}
	}
}

// TestAllTaken: what is put or cleared behind All is not in it, however much that is.
func TestAllTaken(t *testing.T) {
	shapes(t, func(most, n int) {
		want := lastOf(counted(1, n), most)
		for more := range 2*most + 2 {
			r := ring(t, most, counted(1, n)...)
			walk := r.All()
			puts(r, counted(1001, more)...)
			gives(t, fmt.Sprintf("P13.3: %d put into %d, then %d", n, most, more), walk, want...)
			r.Clear()
			gives(t, fmt.Sprintf("P13.3: %d put into %d, then %d, cleared", n, most, more), walk, want...)
			puts(r, counted(2001, more)...)
			gives(t, fmt.Sprintf("P13.3: %d put into %d, cleared, then %d", n, most, more), walk, want...)
		}
	})
}

// TestAllSeveralTimes: each going over gives all, and changes nothing.
func TestAllSeveralTimes(t *testing.T) {
	shapes(t, func(most, n int) {
		r := ring(t, most, counted(1, n)...)
		walk := r.All()
		for range 3 {
			gives(t, "P13.3: once more", walk, lastOf(counted(1, n), most)...)
		}
		holds(t, "P13.3: gone over", r, lastOf(counted(1, n), most)...)
	})
}

// TestAllLeftEarly: at each place; nothing is given behind it, and the next going over begins anew.
func TestAllLeftEarly(t *testing.T) {
	shapes(t, func(most, n int) {
		r := ring(t, most, counted(1, n)...)
		walk, want := r.All(), lastOf(counted(1, n), most)
		for leave := range len(want) {
			var got []int
			walk(func(i, x int) bool {
				if i != len(got) || x != want[i] {
					t.Errorf("P13.3: place %d: %d", i, x)
				}
				got = append(got, x)
				return i < leave
			})
			if len(got) != leave+1 {
				t.Errorf("P13.3: left at %d of %d: %d were given", leave, len(want), len(got))
			}
			gives(t, "P13.3: behind one that was left", walk, want...)
		}
	})
}

// TestAllNested: within itself, each going over is its own.
func TestAllNested(t *testing.T) {
	r := ring(t, 3, counted(1, 5)...)
	walk, n := r.All(), 0
	for i, x := range walk {
		gives(t, "P13.3: within itself", walk, 3, 4, 5)
		if i != n || x != 3+n {
			t.Errorf("P13.3: place %d: %d", i, x)
		}
		n++
	}
	if n != 3 {
		t.Errorf("P13.3: %d were given", n)
	}
}

// TestAllWhilePutting: what is done to the ring while it is gone over is not seen there.
func TestAllWhilePutting(t *testing.T) {
	r := ring(t, 3, counted(1, 5)...)
	n := 0
	for i, x := range r.All() {
		if x != 3+n || i != n {
			t.Errorf("P13.3: place %d: %d", i, x)
		}
		n++
		if n == 2 {
			r.Clear()
		}
		puts(r, 70+n, 80+n)
	}
	if n != 3 {
		t.Errorf("P13.3: %d were given", n)
	}
	holds(t, "P13.2: put while it was gone over", r, 82, 73, 83)
}

// TestAllPulled: two at a time that are pulled in turns.
func TestAllPulled(t *testing.T) {
	r := ring(t, 3, counted(1, 4)...)
	one, stopOne := iter.Pull2(r.All())
	r.Put(5)
	two, stopTwo := iter.Pull2(r.All())
	r.Clear()
	for i := range 3 {
		a, x, yes := one()
		b, y, also := two()
		if a != i || b != i || x != 2+i || y != 3+i || !yes || !also {
			t.Errorf("P13.3: pulled at %d: %d: %d, %t and %d: %d, %t", i, a, x, yes, b, y, also)
		}
	}
	stopOne()
	if _, _, more := two(); more {
		t.Error("P13.3: pulled: one more")
	}
	stopTwo()
}

// TestAllOfNone: an empty ring's gives nothing, also when something was put behind it.
func TestAllOfNone(t *testing.T) {
	for _, most := range []int{0, 1, api.MaxCache} {
		r := ring[int](t, most)
		walk := r.All()
		gives(t, "P13.3: of an empty ring", walk)
		r.Put(5)
		gives(t, "P13.3: of an empty ring, later", walk)
		r.Clear()
		gives(t, "P13.3: of a cleared ring", r.All())
	}
}

// TestAllToNobody: a walk that is handed nobody to give to ends, and does nothing.
func TestAllToNobody(t *testing.T) {
	r := ring(t, 2, 5, 6)
	r.All()(nil)
	holds(t, "R1: to nobody", r, 5, 6)
	for _, none := range noRings() {
		none.All()(nil)
	}
}
