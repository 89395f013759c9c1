package vote_test

import (
	"runtime"
	"strings"
	"sync"
	"testing"
	"time"

	"lagoon/vote"
)

// left is how many goroutines there are that the package began.
func left() int {
	room := make([]byte, 1<<22)
	return strings.Count(string(room[:runtime.Stack(room, true)]), "created by lagoon/vote.")
}

// ended looks that none is there. One that has done its last statement may still be on its way out of the runtime: it gets the time for that, one that waits for something would stay.
func ended(t *testing.T, what string) {
	t.Helper()
	end := time.Now().Add(10 * time.Second)
	for left() > 0 {
		if time.Now().After(end) {
			t.Fatalf("P21.6: %s: %d goroutines are left behind", what, left())
		}
		time.Sleep(time.Millisecond)
	}
}

// TestNoGoroutineIsLeft: whatever the answer is.
func TestNoGoroutineIsLeft(t *testing.T) {
	for _, w := range several() {
		s := made(t, w)
		n := len(w.weights)
		h := even(n)
		h.current[n-1], h.last[0] = 2, z(2, 9)
		for _, set := range []uint8{0, 1, 3, 7, 15, 127, 255} {
			h.elects(t, w, s, set)
			ended(t, "Elect")
		}
		electsNobody(t, s, 255, even(n-1))
		electsNobody(t, s, 255, even(n+1))
		electsNobody(t, nil, 255, h)
		ended(t, "Elect, refused")
	}
}

// TestNoGoroutineIsLeftBehindMany: what one call in many would leave is seen too.
func TestNoGoroutineIsLeftBehindMany(t *testing.T) {
	s := chance(6)
	for range 3000 {
		w := s.words()
		h := s.history(len(w.weights))
		vote.Elect(made(t, w), uint8(s.Uint32()), h.current, h.last)
	}
	ended(t, "behind many calls")
}

// TestSideBySide: calls that run at the same time, of the same system and lists, know nothing of each other.
func TestSideBySide(t *testing.T) {
	var group sync.WaitGroup
	for _, w := range several() {
		s := made(t, w)
		h := chance(7).history(len(w.weights))
		for range 4 {
			group.Go(func() {
				for set := range 256 {
					h.elects(t, w, s, uint8(set))
				}
			})
		}
	}
	group.Wait()
	ended(t, "side by side")
}

// TestWritesBehindTheAnswer: who called may do with its lists what it likes at once; the race detector would tell of one that still reads them.
func TestWritesBehindTheAnswer(t *testing.T) {
	s := chance(8)
	w := words{likes(7, 1), likes(7, 0)}
	system := made(t, w)
	for range 300 {
		h := s.history(7)
		want, _ := h.best(w, 127)
		got, is := vote.Elect(system, 127, h.current, h.last)
		clear(h.current)
		clear(h.last)
		if got != want || !is {
			t.Fatalf("P21.6: Elect = %d, %v, not %d", got, is, want)
		}
	}
}
