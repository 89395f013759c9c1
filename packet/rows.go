package packet

import (
	"lagoon/api"
	"lagoon/pack"
	"lagoon/txn"
)

// row is how one field goes, in a packet that names it: whether what it has there is right, how that is laid, how it is read.
type row struct {
	field uint16
	right func(p api.Packet) bool
	put   func(w *pack.Writer, p api.Packet)
	get   func(r *pack.Reader, p *api.Packet)
}

// rowsOf are the rows of these fields, in the order in which they are laid.
func rowsOf(names uint16) []row {
	var out []row
	for _, f := range rows() {
		if names&f.field != 0 {
			out = append(out, f)
		}
	}
	return out
}

// rows are those of all fields, in the struct's order.
func rows() []row {
	return []row{
		{fieldConn,
			func(p api.Packet) bool { return isConn(p.Conn) },
			func(w *pack.Writer, p api.Packet) { putPair(w, p.Conn.Boot, p.Conn.Try) },
			func(r *pack.Reader, p *api.Packet) { p.Conn.Boot, p.Conn.Try = getPair(r) }},
		{fieldLead,
			func(p api.Packet) bool { return isConn(p.Lead) },
			func(w *pack.Writer, p api.Packet) { putPair(w, p.Lead.Boot, p.Lead.Try) },
			func(r *pack.Reader, p *api.Packet) { p.Lead.Boot, p.Lead.Try = getPair(r) }},
		{fieldPlace,
			func(p api.Packet) bool { return p.Place >= 0 },
			func(w *pack.Writer, p api.Packet) { w.Int64(p.Place) },
			func(r *pack.Reader, p *api.Packet) { p.Place = r.Int64() }},
		{fieldEpoch,
			isEpochRight,
			func(w *pack.Writer, p api.Packet) { w.Uint32(p.Epoch) },
			func(r *pack.Reader, p *api.Packet) { p.Epoch = r.Uint32() }},
		{fieldCurrent,
			func(p api.Packet) bool { return p.Current <= api.LastEpoch },
			func(w *pack.Writer, p api.Packet) { w.Uint32(p.Current) },
			func(r *pack.Reader, p *api.Packet) { p.Current = r.Uint32() }},
		{fieldZxid,
			isZxidRight,
			func(w *pack.Writer, p api.Packet) { putPair(w, p.Zxid.Epoch, p.Zxid.N) },
			func(r *pack.Reader, p *api.Packet) { p.Zxid.Epoch, p.Zxid.N = getPair(r) }},
		{fieldPrev,
			func(p api.Packet) bool { return isZxid(p.Prev) },
			func(w *pack.Writer, p api.Packet) { putPair(w, p.Prev.Epoch, p.Prev.N) },
			func(r *pack.Reader, p *api.Packet) { p.Prev.Epoch, p.Prev.N = getPair(r) }},
		{fieldCounted,
			isAnything,
			func(w *pack.Writer, p api.Packet) { w.Bool(p.Counted) },
			func(r *pack.Reader, p *api.Packet) { p.Counted = r.Bool() }},
		{fieldFinal,
			isAnything,
			func(w *pack.Writer, p api.Packet) { w.Bool(p.Final) },
			func(r *pack.Reader, p *api.Packet) { p.Final = r.Bool() }},
		{fieldTxn, isTxnRight, putTxn, getTxn},
		{fieldBytes,
			func(p api.Packet) bool { return len(p.Bytes) >= 1 && len(p.Bytes) <= api.MaxChunk },
			func(w *pack.Writer, p api.Packet) { w.Buffer(p.Bytes) },
			func(r *pack.Reader, p *api.Packet) { p.Bytes = r.Buffer(api.MaxChunk) }},
		{fieldSession,
			func(p api.Packet) bool { return p.Session >= 1 },
			func(w *pack.Writer, p api.Packet) { w.Int64(p.Session) },
			func(r *pack.Reader, p *api.Packet) { p.Session = r.Int64() }},
	}
}

// putPair lays the two numbers of a connection, or of a zxid.
func putPair(w *pack.Writer, first, second uint32) {
	w.Uint32(first)
	w.Uint32(second)
}

func getPair(r *pack.Reader) (uint32, uint32) {
	first := r.Uint32()
	return first, r.Uint32()
}

// putTxn is handed a packet that may be: its transaction has bytes.
func putTxn(w *pack.Writer, p api.Packet) {
	b, _ := txn.Write(p.Txn)
	w.Buffer(b)
}

func getTxn(r *pack.Reader, p *api.Packet) {
	t, e := txn.Read(r.Buffer(api.MaxTxn))
	need(e == api.OK)
	p.Txn = t
}

func isAnything(api.Packet) bool { return true }

// isConn tells whether starts and tries may be counted so: both from 1 on.
func isConn(c api.Conn) bool { return c.Boot >= 1 && c.Try >= 1 }

// isEpochRight: whoever sends an Info may have promised to follow nobody yet.
func isEpochRight(p api.Packet) bool {
	return p.Epoch <= api.LastEpoch && (p.Epoch >= 1 || p.Kind == api.PInfo)
}

// isZxidRight: a single transaction is acknowledged, or committed, only if there is one.
func isZxidRight(p api.Packet) bool {
	single := p.Kind == api.PAck || p.Kind == api.PCommit
	return isZxid(p.Zxid) && !(single && p.Zxid == api.Zxid{})
}

// isTxnRight: what is forwarded has no zxid yet, and somebody waits for it; all else stands behind what is ahead of it.
func isTxnRight(p api.Packet) bool {
	if txn.Check(p.Txn) != api.OK {
		return false
	}
	if p.Kind == api.PForward {
		return p.Txn.Zxid == api.Zxid{} && p.Txn.From.Number >= 1
	}
	return txn.Compare(p.Txn.Zxid, p.Prev) > 0
}

// isZxid tells whether a zxid may be.
func isZxid(z api.Zxid) bool {
	return z == api.Zxid{} || z.Epoch >= 1 && z.Epoch <= api.LastEpoch && z.N >= 1
}
