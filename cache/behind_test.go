package cache_test

import (
	"math"
	"testing"

	"lagoon/api"
	"lagoon/cache"
)

// below orders zxids by the document's words: by epoch, then by counter.
func below(a, b api.Zxid) bool {
	return a.Epoch < b.Epoch || a.Epoch == b.Epoch && a.N < b.N
}

// above are those of a list that are above one, in order.
func above(l []api.Zxid, at api.Zxid) []api.Zxid {
	var out []api.Zxid
	for _, x := range l {
		if below(at, x) {
			out = append(out, x)
		}
	}
	return out
}

// aheadOf is what stands ahead of a history's last so many: zero, if they are all of it.
func aheadOf(history []api.Zxid, most int) api.Zxid {
	if len(history) <= most {
		return api.Zxid{}
	}
	return history[len(history)-most-1]
}

// around are zxids at, right below and right above each of these, ahead of and behind their epochs, and the ends.
func around(l []api.Zxid) []api.Zxid {
	out := []api.Zxid{{}, z(0, 1), z(0, math.MaxUint32), z(math.MaxUint32, 0), z(math.MaxUint32, math.MaxUint32)}
	for _, x := range l {
		out = append(out, x, z(x.Epoch, x.N-1), z(x.Epoch, x.N+1), z(x.Epoch, 0), z(x.Epoch+1, 0), z(x.Epoch, math.MaxUint32))
	}
	return out
}

// answers looks at one Behind, by the promise's words.
func answers(t *testing.T, c *cache.Txns, has []api.Zxid, at, ahead api.Zxid) {
	t.Helper()
	if below(at, ahead) {
		lacks(t, "P13.6", c, at, ahead)
		return
	}
	tells(t, "P13.6", c, at, ahead, above(has, at)...)
}

// TestBehind: each z with the right ahead, and with every other one; of caches of none, of some and of all of a history.
func TestBehind(t *testing.T) {
	for _, n := range []int{0, 1, 2, 7} {
		history := rising(n)
		for most := range n + 2 {
			c, has := txns(t, most, history...), lastOf(history, most)
			for _, at := range around(history) {
				answers(t, c, has, at, aheadOf(history, most))
				for _, ahead := range around(history) {
					answers(t, c, has, at, ahead)
				}
			}
		}
	}
}

// TestBehindWide: of a cache that is as great as one may be, and has gone round.
func TestBehindWide(t *testing.T) {
	history := rising(2*api.MaxCache + 9)
	c := txns(t, api.MaxCache, history[:api.MaxCache+1]...)
	for _, at := range history[api.MaxCache+1:] {
		adds(t, "P13.5", c, at, api.OK)
	}
	has, ahead := lastOf(history, api.MaxCache), aheadOf(history, api.MaxCache)
	for _, at := range around(history) {
		answers(t, c, has, at, ahead)
	}
}

// TestBehindEmpty: of a cache that was cleared, ahead is the history's last.
func TestBehindEmpty(t *testing.T) {
	history := rising(6)
	for most := range 8 {
		c := txns(t, most, history...)
		c.Clear()
		for _, at := range around(history) {
			for _, ahead := range around(history) {
				answers(t, c, nil, at, ahead)
			}
		}
	}
}

// TestBehindChangesNothing: asked again it tells the same.
func TestBehindChangesNothing(t *testing.T) {
	c := txns(t, 3, rising(7)...)
	for range 3 {
		tells(t, "P13.6: again", c, rising(7)[4], rising(7)[3], rising(7)[5:]...)
		lacks(t, "P13.6: again", c, rising(7)[2], rising(7)[3])
		has(t, "P13.6: asked", c, rising(7)[4:]...)
	}
}

// TestMostAlone: whether all of those above z are there hangs on most alone, and what is told then is just those of the history.
func TestMostAlone(t *testing.T) {
	history := rising(12)
	for most := range 14 {
		c, ahead := txns(t, most, history...), aheadOf(history, most)
		for i := range 13 {
			at := append([]api.Zxid{{}}, history...)[i]
			if 12-i <= most {
				tells(t, "P13.6: all are there", c, at, ahead, history[i:]...)
			} else {
				lacks(t, "P13.6: not all are there", c, at, ahead)
			}
		}
	}
}
