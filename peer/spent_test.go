package peer

import (
	"math"
	"testing"

	"lagoon/api"
	"lagoon/disk"
)

// TestTriesAreSpent: behind the last try it is told nothing more, and stays as it is. (So many nobody can tell it in a test.)
func TestTriesAreSpent(t *testing.T) {
	d, _ := disk.New(10000)
	s, _, _ := Start(api.Config{Weights: []int{1, 0}, Groups: []int{0, 0}, Chunk: 1, Segment: 1, LastEpoch: 9, LastCounter: 9}, 0, d)
	s.try = math.MaxUint32 - 1
	if o, e := s.Do(api.Input{Kind: api.InFollow}); e != api.OK || len(o.Facts) != 2 || s.try != math.MaxUint32 {
		t.Fatalf("P24.3: the last try: %+v, %d", o, e)
	}
	for other := range int8(2) {
		if o, e := s.Do(api.Input{Kind: api.InFollow, Other: other}); e != api.ErrSpent || len(o.Facts) > 0 || !s.View().Serves {
			t.Errorf("P24.3: behind it: %+v, %d", o, e)
		}
	}
	d2, _ := disk.New(10000)
	s, _, _ = Start(api.Config{Weights: []int{1, 0}, Groups: []int{0, 0}, Chunk: 1, Segment: 1, LastEpoch: 9, LastCounter: 9}, 1, d2)
	s.try = math.MaxUint32
	if _, e := s.Do(api.Input{Kind: api.InFollow, Other: 1}); e != api.ErrServer {
		t.Errorf("P24.3: one that never counts: %d", e)
	}
}
