package chain

import (
	"iter"
	"slices"
)

// Pipe does it one by one, as they are asked for.
func Pipe[T any](in iter.Seq[T], stages ...Stage[T]) iter.Seq[T] {
	out := guarded(in)
	for _, s := range stages {
		if s != nil {
			out = behind(out, s)
		}
	}
	return func(yield func(x T) bool) {
		if yield != nil {
			out(yield)
		}
	}
}

// guarded gives what in gives, and nothing any more where it was left or has ended: a loop over in itself would panic, if in went on.
func guarded[T any](in iter.Seq[T]) iter.Seq[T] {
	return func(yield func(x T) bool) {
		if in == nil {
			return
		}
		over := false
		in(func(x T) bool {
			if over {
				return false
			}
			over = true // till yield has answered: nothing may come in between
			over = !yield(x)
			return !over
		})
		over = true
	}
}

// behind gives what a stage makes of the things of in, each ahead of any further call.
func behind[T any](in iter.Seq[T], s Stage[T]) iter.Seq[T] {
	return func(yield func(x T) bool) {
		for x := range in {
			if !give(s.Do(x), yield) {
				return
			}
		}
		give(s.End(), yield)
	}
}

// give gives a list's things, and tells whether more are wanted. It reads a copy: who takes a thing may go over it all again, and so bring about the stage's next call.
func give[T any](l []T, yield func(x T) bool) bool {
	for _, x := range slices.Clone(l) {
		if !yield(x) {
			return false
		}
	}
	return true
}
