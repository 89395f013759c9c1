package cache_test

import (
	"math/rand/v2"
	"testing"

	"lagoon/api"
)

// TestLastOfWhatWasPut: a ring has the last Len of what was put since it was made or cleared, and Len is at most most: many rings, each with anything done to it, some of its walks kept.
func TestLastOfWhatWasPut(t *testing.T) {
	g := rand.New(rand.NewPCG(13, 1))
	for range 300 {
		most := g.IntN(api.MaxCache + 1)
		if g.IntN(2) == 0 {
			most = g.IntN(6)
		}
		r := ring[int](t, most)
		var put []int
		walk, taken := r.All(), []int(nil)
		for range 60 {
			switch g.IntN(12) {
			case 0:
				r.Clear()
				put = nil
			case 1:
				walk, taken = r.All(), lastOf(put, most)
			default:
				for range 1 + g.IntN(5) {
					put = append(put, g.IntN(100))
					r.Put(put[len(put)-1])
				}
			}
			if r.Len() > most {
				t.Fatalf("P13.2: Len %d of at most %d", r.Len(), most)
			}
			holds(t, "P13.2: anything", r, lastOf(put, most)...)
			gives(t, "P13.3: anything", walk, taken...)
		}
	}
}

// anyZxid is near one, mostly above it.
func anyZxid(g *rand.Rand, at api.Zxid) api.Zxid {
	switch g.IntN(8) {
	case 0:
		return z(at.Epoch, uint32(g.IntN(int(at.N)+1)))
	case 1:
		return z(uint32(g.IntN(int(at.Epoch)+1)), uint32(g.IntN(4)))
	case 2:
		return z(at.Epoch+1, uint32(g.IntN(3)))
	default:
		return z(at.Epoch, at.N+uint32(g.IntN(3)))
	}
}

// TestEndOfAHistory: of a history whose last most transactions a cache has, Behind tells just those above z, or that it has not all of them: many histories, each grown by anything that is added, now and then begun anew.
func TestEndOfAHistory(t *testing.T) {
	g := rand.New(rand.NewPCG(13, 2))
	for range 200 {
		most := g.IntN(9)
		history := rising(g.IntN(12))
		c := txns(t, most, history...)
		for range 40 {
			last := api.Zxid{}
			if len(history) > 0 {
				last = history[len(history)-1]
			}
			held := lastOf(history, most)
			at, e := anyZxid(g, last), api.OK
			if len(held) > 0 && !below(last, at) || at == (api.Zxid{}) {
				e = api.ErrOrder
			}
			if g.IntN(20) == 0 {
				c.Clear()
				history = nil
				continue
			}
			adds(t, "P13.5: anything", c, at, e)
			if e != api.OK {
				has(t, "P13.5: refused", c, held...)
				continue
			}
			history = append(history, at)
			has(t, "P13.5: anything", c, lastOf(history, most)...)
			ahead := aheadOf(history, most)
			for range 6 {
				answers(t, c, lastOf(history, most), anyZxid(g, history[g.IntN(len(history))]), ahead)
			}
		}
	}
}
