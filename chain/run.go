package chain

import (
	"slices"
	"sync"
)

// room is how many lists a stage may be ahead of the one behind it. It is at least 1: Run hands in what it was given before it takes what comes out.
const room = 16

// Run hands things to the first stage, what it makes of them to the next, and so on.
func Run[T any](in []T, stages ...Stage[T]) []T {
	var running sync.WaitGroup
	first := make(chan []T, room) // of lists, as a thing may have more bytes than an element of a channel may
	var last <-chan []T = first
	for _, s := range stages {
		if s != nil {
			last = begin(s, last, &running)
		}
	}
	hand(first, in)
	close(first)
	var out []T
	for l := range last {
		out = append(out, l...)
	}
	running.Wait()
	return out
}

// begin lets a stage work in a goroutine of its own, and tells where what it makes comes out.
func begin[T any](s Stage[T], in <-chan []T, running *sync.WaitGroup) <-chan []T {
	out := make(chan []T, room)
	running.Add(1)
	go work(s, in, out, running)
	return out
}

// work does all that one stage has to do.
func work[T any](s Stage[T], in <-chan []T, out chan<- []T, running *sync.WaitGroup) {
	defer running.Done()
	defer close(out)
	for l := range in {
		for _, x := range l {
			hand(out, s.Do(x))
		}
	}
	hand(out, s.End())
}

// hand hands a list on in a copy, as its owner may use it again as soon as this is done.
func hand[T any](to chan<- []T, l []T) {
	if len(l) > 0 {
		to <- slices.Clone(l)
	}
}
