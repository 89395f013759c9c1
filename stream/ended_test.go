package stream_test

import (
	"runtime"
	"slices"
	"strings"
	"sync"
	"testing"
	"time"

	"lagoon/api"
)

// left is how many goroutines there are that the package began.
func left() int {
	room := make([]byte, 1<<22)
	return strings.Count(string(room[:runtime.Stack(room, true)]), "created by lagoon/stream.")
}

// ended looks that none is there. One that has done its last statement may still be on its way out of the runtime: it gets the time for that, one that waits for something would stay.
func ended(t *testing.T, what string) {
	t.Helper()
	end := time.Now().Add(10 * time.Second)
	for left() > 0 {
		if time.Now().After(end) {
			t.Fatalf("P16.2: %s: %d goroutines are left behind", what, left())
		}
		time.Sleep(time.Millisecond)
	}
}

// TestNoGoroutineIsLeft: whatever the answer is.
func TestNoGoroutineIsLeft(t *testing.T) {
	for _, q := range good() {
		q.gives(t, name(q), q.packets()...)
		ended(t, name(q))
	}
	for _, q := range wrong() {
		q.refused(t, name(q))
		ended(t, name(q)+", refused")
	}
}

// TestNoGoroutineIsLeftBehindMany: what one call in many would leave is seen too.
func TestNoGoroutineIsLeftBehindMany(t *testing.T) {
	for range 200 {
		for _, q := range append(good(), wrong()...) {
			q.make()
		}
	}
	ended(t, "behind many calls")
}

// TestWritesBehindTheAnswer: who called may do with its lists what it likes at once; the race detector would tell of one that still reads them.
func TestWritesBehindTheAnswer(t *testing.T) {
	for range 200 {
		q := question{by(api.BySnap, z(1, 1)), counting(64), logOf(z(1, 2), z(2, 1)), 2, 7}
		want := deep(q.packets())
		got, _ := q.make()
		h := handed{q.image, q.l}
		spoil(&h)
		if !slices.EqualFunc(got, want, same) {
			t.Fatalf("P16.2: %+v", got)
		}
	}
}

// TestSideBySide: calls that run at the same time, of the same arguments, know nothing of each other.
func TestSideBySide(t *testing.T) {
	all := filled()
	var wants [][]api.Packet
	for _, q := range all {
		wants = append(wants, q.packets())
	}
	var group sync.WaitGroup
	for range 8 {
		group.Go(func() {
			for range 50 {
				for i, q := range all {
					if got, e := q.make(); e != api.OK || !slices.EqualFunc(got, wants[i], same) {
						t.Errorf("R6: %s, beside others: %d, %+v", name(q), e, got)
					}
				}
			}
		})
	}
	group.Wait()
	ended(t, "side by side")
}
