package learn

import (
	"slices"

	"lagoon/api"
	"lagoon/snap"
	"lagoon/txn"
)

// atFirst is where nothing has been taken.
func (l *Learner) atFirst(p api.Packet) bool {
	switch p.Kind {
	case api.PTrunc:
		return l.cutOff(p.Zxid)
	case api.PChunk:
		return l.inCopy(p)
	default:
		return l.behind(p)
	}
}

// inCopy is where Chunks have come that have not ended.
func (l *Learner) inCopy(p api.Packet) bool {
	if p.Kind != api.PChunk {
		return false
	}
	c := soFar(l.base).with(p.Bytes)
	if !p.Final {
		l.base = c
		l.goOn(l.inCopy)
		return true
	}
	tree, e := snap.Read(c.room[:c.used])
	if e != api.OK {
		return false
	}
	c.last = tree.Last()
	l.base = c
	l.goOn(l.behind)
	return true
}

// behind is where a cut, a whole copy or a transaction stands last: transactions may come, and the end.
func (l *Learner) behind(p api.Packet) bool {
	switch p.Kind {
	case api.PDiff:
		return l.add(p)
	case api.PNewLeader:
		return l.finish(p)
	default:
		return false
	}
}

// atEnd is where the Learner is done: nothing fits.
func (l *Learner) atEnd(api.Packet) bool { return false }

func (l *Learner) cutOff(at api.Zxid) bool {
	if !slices.Contains(l.history, at) {
		return false
	}
	l.base = cut{at: at}
	l.goOn(l.behind)
	return true
}

// add takes a Diff. (That its transaction is above its Prev, and so above the last, layer 15 has looked at.)
func (l *Learner) add(p api.Packet) bool {
	if p.Prev != l.Last() || p.Txn.Zxid.Epoch > l.epoch {
		return false
	}
	l.txns = append(l.txns, txn.Clone(p.Txn))
	l.goOn(l.behind)
	return true
}

func (l *Learner) finish(p api.Packet) bool {
	if p.Epoch != l.epoch || p.Zxid != l.Last() {
		return false
	}
	l.done = true
	l.goOn(l.atEnd)
	return true
}

// goOn goes to another place, behind a packet that was taken: the follower's history is not asked for any more.
func (l *Learner) goOn(next func(p api.Packet) bool) {
	l.next, l.history = next, nil
}
