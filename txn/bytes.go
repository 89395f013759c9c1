package txn

import (
	"lagoon/api"
	"lagoon/pack"
)

// put lays a request that may stand there.
func (l layout) put(w *pack.Writer, r api.Request) {
	w.Int8(r.Kind)
	names := l.names(r.Kind)
	if names&fieldPath != 0 {
		w.Text(r.Path)
	}
	if names&fieldData != 0 {
		w.Buffer(r.Data)
	}
	if names&fieldAcl != 0 {
		pack.PutList(w, r.Acl, l.putEntry)
	}
	if names&fieldVersion != 0 {
		w.Int32(r.Version)
	}
	if names&fieldEphemeral != 0 {
		w.Bool(r.Ephemeral)
	}
	if names&fieldSequence != 0 {
		w.Bool(r.Sequence)
	}
	if names&fieldSession != 0 {
		w.Int64(r.Session)
	}
	if names&fieldTimeout != 0 {
		w.Int32(r.Timeout)
	}
	if names&fieldWho != 0 {
		pack.PutList(w, r.Who, l.putId)
	}
	if names&fieldOps != 0 {
		pack.PutList(w, r.Ops, within().put)
	}
}

func (l layout) putEntry(w *pack.Writer, e api.Entry) {
	w.Int8(e.Perms)
	l.putId(w, e.Who)
}

func (l layout) putId(w *pack.Writer, id api.Id) {
	w.Text(id.Scheme)
	w.Text(id.Name)
}

// get reads a request that stands there. A kind that may not is a fault at once: what it would name there can't be read.
func (l layout) get(r *pack.Reader) api.Request {
	q := api.Request{Kind: r.Int8()}
	names := l.names(q.Kind)
	if names == 0 {
		r.Fail(api.ErrTxn)
	}
	if names&fieldPath != 0 {
		q.Path = r.Text(api.MaxPath)
	}
	if names&fieldData != 0 {
		q.Data = getData(r)
	}
	if names&fieldAcl != 0 {
		q.Acl = pack.GetList(r, api.MaxAcl, l.getEntry)
	}
	if names&fieldVersion != 0 {
		q.Version = r.Int32()
	}
	if names&fieldEphemeral != 0 {
		q.Ephemeral = r.Bool()
	}
	if names&fieldSequence != 0 {
		q.Sequence = r.Bool()
	}
	if names&fieldSession != 0 {
		q.Session = r.Int64()
	}
	if names&fieldTimeout != 0 {
		q.Timeout = r.Int32()
	}
	if names&fieldWho != 0 {
		q.Who = pack.GetList(r, api.MaxIds, l.getId)
	}
	if names&fieldOps != 0 {
		q.Ops = pack.GetList(r, api.MaxOps, within().get)
	}
	return q
}

func (l layout) getEntry(r *pack.Reader) api.Entry {
	perms := r.Int8()
	return api.Entry{Perms: perms, Who: l.getId(r)}
}

func (l layout) getId(r *pack.Reader) api.Id {
	scheme := r.Text(api.MaxId)
	return api.Id{Scheme: scheme, Name: r.Text(api.MaxId)}
}

// getData reads a request's data. A cut without a byte would hold on to all that the reader has, for nothing.
func getData(r *pack.Reader) []byte {
	b := r.Buffer(api.MaxData)
	if len(b) == 0 {
		return nil
	}
	return b
}
