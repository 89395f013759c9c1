package txn

import (
	"bytes"
	"slices"

	"lagoon/api"
)

// Same tells whether two transactions are the same.
func Same(a, b api.Txn) bool {
	return a.Zxid == b.Zxid && a.From == b.From && sameRequest(a.Req, b.Req)
}

// Clone is a transaction in memory of its own.
func Clone(t api.Txn) api.Txn {
	t.Req = cloneRequest(t.Req)
	return t
}

// sameRequest looks at every field, whether its kind names it or not.
func sameRequest(a, b api.Request) bool {
	return a.Kind == b.Kind &&
		a.Path == b.Path &&
		bytes.Equal(a.Data, b.Data) &&
		slices.Equal(a.Acl, b.Acl) &&
		a.Version == b.Version &&
		a.Ephemeral == b.Ephemeral &&
		a.Sequence == b.Sequence &&
		a.Session == b.Session &&
		a.Timeout == b.Timeout &&
		slices.Equal(a.Who, b.Who) &&
		slices.EqualFunc(a.Ops, b.Ops, sameRequest)
}

// cloneRequest goes down all requests within one another: one that may not be is cloned too.
func cloneRequest(r api.Request) api.Request {
	r.Data = copied(r.Data)
	r.Acl = copied(r.Acl)
	r.Who = copied(r.Who)
	r.Ops = copied(r.Ops)
	for i, op := range r.Ops {
		r.Ops[i] = cloneRequest(op)
	}
	return r
}

// copied is a list in memory of its own. (slices.Clone would cut a list without elements out of the one that was handed in.)
func copied[T any](l []T) []T {
	if l == nil {
		return nil
	}
	out := make([]T, len(l))
	copy(out, l)
	return out
}
