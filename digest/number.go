package digest

import (
	"lagoon/api"
	"lagoon/pack"
)

// What the number of no bytes is, and what it is multiplied by with each byte: those of FNV-1a of 64 bits.
const (
	fnvStart uint64 = 14695981039346656037
	fnvPrime uint64 = 1099511628211
)

// The first byte of a node and of a session, by which the bytes of one are never those of the other.
const (
	nodeMark    int8 = 1
	sessionMark int8 = 2
)

// numberOf is the number of bytes.
func numberOf(b ...byte) uint64 {
	h := fnvStart
	take := func(x byte) { h = (h ^ uint64(x)) * fnvPrime }
	for i := range len(b) {
		take(b[i])
	}
	return h
}

// putNode leaves out Size and Count, as they follow from the data and from the other nodes.
func putNode(w *pack.Writer, n api.Node) {
	w.Int8(nodeMark)
	w.Text(n.Path)
	w.Buffer(n.Data)
	pack.PutList(w, n.Acl, putEntry)
	putZxid(w, n.Stat.Made)
	putZxid(w, n.Stat.Changed)
	putZxid(w, n.Stat.Childs)
	w.Int32(n.Stat.Version)
	w.Int32(n.Stat.Cversion)
	w.Int32(n.Stat.Aversion)
	w.Int64(n.Stat.Owner)
	w.Int32(n.Next)
}

func putEntry(w *pack.Writer, e api.Entry) {
	w.Int8(e.Perms)
	w.Text(e.Who.Scheme)
	w.Text(e.Who.Name)
}

func putZxid(w *pack.Writer, z api.Zxid) {
	w.Uint32(z.Epoch)
	w.Uint32(z.N)
}

func putSession(w *pack.Writer, s api.Session) {
	w.Int8(sessionMark)
	w.Int64(s.Id)
	w.Int32(s.Timeout)
}
