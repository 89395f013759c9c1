package learn

import "lagoon/api"

// gathered is what came ahead of the transactions: nothing, a cut, or a copy.
type gathered interface {
	// end is the last so far, where no transaction stands behind it.
	end() api.Zxid
}

// nothing leaves the follower's history as it is.
type nothing struct {
	last api.Zxid // the follower's
}

// cut takes away what stands behind a zxid of the follower's history.
type cut struct {
	at api.Zxid
}

// copied is a copy of the leader's tree, or what has come of it.
type copied struct {
	room []byte // the Chunks' bytes, and room for more behind them
	used int
	last api.Zxid // the tree's; till the copy is whole what was the last ahead of it
}

func (n nothing) end() api.Zxid { return n.last }

func (c cut) end() api.Zxid { return c.at }

func (c copied) end() api.Zxid { return c.last }

// soFar is the copy that has begun to come; else one without bytes.
func soFar(g gathered) copied {
	switch x := g.(type) {
	case copied:
		return x
	default:
		return copied{last: x.end()}
	}
}

// with is the copy with a piece more. The one without it is as good as before: what stands behind its bytes is not looked at.
func (c copied) with(piece []byte) copied {
	n := c.used + len(piece)
	if n > len(c.room) {
		wider := make([]byte, 2*n)
		copy(wider, c.room[:c.used])
		c.room = wider
	}
	copy(c.room[c.used:], piece)
	c.used = n
	return c
}

// image is the copy's bytes, in memory of their own.
func (c copied) image() []byte {
	out := make([]byte, c.used)
	copy(out, c.room)
	return out
}

// beginning is what is to be taken ahead of the transactions.
func beginning(g gathered) api.Brought {
	var b api.Brought
	switch x := g.(type) {
	case nothing, cut:
		b.Cut = x.end()
	case copied:
		b.Whole, b.Image = true, x.image()
	}
	return b
}
