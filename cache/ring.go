package cache

import (
	"iter"

	"lagoon/api"
)

// Ring keeps the last things, so many at most. NewRing makes it; a plain one is of at most none, and keeps nothing.
type Ring[T any] struct {
	places [api.MaxCache]T // the first most of them are gone round; what has gone is in none
	most   int
	first  int // where the first thing lies
	count  int
}

// NewRing gives an empty one.
func NewRing[T any](most int) (*Ring[T], api.Errno) {
	if most < 0 || most > api.MaxCache {
		return nil, api.ErrArg
	}
	return &Ring[T]{most: most}, api.OK
}

// Put puts one behind the others; the first goes, if there are too many.
func (r *Ring[T]) Put(x T) {
	if r == nil || r.most == 0 {
		return
	}
	if r.count == r.most {
		r.first = r.round(1)
		r.count--
	}
	r.places[r.round(r.count)] = x
	r.count++
}

// Len tells how many there are.
func (r *Ring[T]) Len() int {
	if r == nil {
		return 0
	}
	return r.count
}

// At tells the one at a place, from the first on.
func (r *Ring[T]) At(i int) (T, bool) {
	if i < 0 || i >= r.Len() {
		var none T
		return none, false
	}
	return r.places[r.round(i)], true
}

// All goes through them, as they are when it is asked.
func (r *Ring[T]) All() iter.Seq2[int, T] {
	var taken Ring[T] // its array is a copy: what becomes of the ring later is not seen in it
	if r != nil {
		taken = *r
	}
	return func(yield func(int, T) bool) {
		if yield == nil {
			return
		}
		for i := range taken.count {
			if x, _ := taken.At(i); !yield(i, x) {
				return
			}
		}
	}
}

// Clear takes all out.
func (r *Ring[T]) Clear() {
	if r == nil {
		return
	}
	clear(r.places[:]) // what the things hold of memory is not kept
	r.first, r.count = 0, 0
}

// round is where the i-th thing lies, or would lie; asked only of a ring that has places.
func (r *Ring[T]) round(i int) int { return (r.first + i) % r.most }
