package txn_test

import (
	"bytes"
	"slices"
	"testing"

	"lagoon/api"
	"lagoon/txn"
)

// odd is a transaction that may not be, every field of which is filled, two levels down.
func odd() api.Txn {
	inner := api.Request{Kind: 100, Path: "inner", Data: []byte{9, 8}, Acl: []api.Entry{{Perms: 2, Who: api.Id{Scheme: "a", Name: "b"}}}, Version: 3, Session: 4, Timeout: 5, Who: []api.Id{{Scheme: "c"}}, Ops: []api.Request{{Kind: 7}, {Kind: 8, Data: []byte{1}}}}
	return api.Txn{Zxid: z(1<<31, 0), From: api.Origin{Server: -5, Boot: 6, Number: -7}, Req: api.Request{
		Kind: -1, Path: "/p", Data: []byte{1, 2, 3}, Acl: []api.Entry{{Perms: 1, Who: api.Id{Scheme: "s", Name: "n"}}, {}}, Version: -4, Ephemeral: true, Sequence: true, Session: -5, Timeout: -6,
		Who: []api.Id{{Scheme: "x", Name: "y"}, {}}, Ops: []api.Request{inner, {}}}}
}

// changes make something another one, each at another place.
var changes = []func(t *api.Txn){
	func(t *api.Txn) { t.Zxid.Epoch++ },
	func(t *api.Txn) { t.Zxid.N++ },
	func(t *api.Txn) { t.From.Server++ },
	func(t *api.Txn) { t.From.Boot++ },
	func(t *api.Txn) { t.From.Number++ },
	func(t *api.Txn) { t.Req.Kind++ },
	func(t *api.Txn) { t.Req.Path += "x" },
	func(t *api.Txn) { t.Req.Path = "/q" },
	func(t *api.Txn) { t.Req.Path = "" },
	func(t *api.Txn) { t.Req.Data = []byte{1, 2, 4} },
	func(t *api.Txn) { t.Req.Data = []byte{1, 2} },
	func(t *api.Txn) { t.Req.Data = []byte{1, 2, 3, 0} },
	func(t *api.Txn) { t.Req.Data = nil },
	func(t *api.Txn) { t.Req.Acl = slices.Clone(t.Req.Acl); t.Req.Acl[0].Perms++ },
	func(t *api.Txn) { t.Req.Acl = slices.Clone(t.Req.Acl); t.Req.Acl[0].Who.Scheme = "" },
	func(t *api.Txn) { t.Req.Acl = slices.Clone(t.Req.Acl); t.Req.Acl[1].Who.Name = "n" },
	func(t *api.Txn) { t.Req.Acl = t.Req.Acl[:1] },
	func(t *api.Txn) { t.Req.Acl = []api.Entry{t.Req.Acl[1], t.Req.Acl[0]} },
	func(t *api.Txn) { t.Req.Acl = nil },
	func(t *api.Txn) { t.Req.Version++ },
	func(t *api.Txn) { t.Req.Ephemeral = !t.Req.Ephemeral },
	func(t *api.Txn) { t.Req.Sequence = !t.Req.Sequence },
	func(t *api.Txn) { t.Req.Session++ },
	func(t *api.Txn) { t.Req.Timeout++ },
	func(t *api.Txn) { t.Req.Who = []api.Id{t.Req.Who[1], t.Req.Who[0]} },
	func(t *api.Txn) { t.Req.Who = []api.Id{t.Req.Who[0]} },
	func(t *api.Txn) { t.Req.Who = []api.Id{{Scheme: "x", Name: "z"}, {}} },
	func(t *api.Txn) { t.Req.Who = []api.Id{{Scheme: "w", Name: "y"}, {}} },
	func(t *api.Txn) { t.Req.Who = nil },
	func(t *api.Txn) { t.Req.Ops = t.Req.Ops[:1] },
	func(t *api.Txn) { t.Req.Ops = nil },
	func(t *api.Txn) { t.Req.Ops = append(slices.Clone(t.Req.Ops), api.Request{}) },
	func(t *api.Txn) { t.Req.Ops = []api.Request{t.Req.Ops[1], t.Req.Ops[0]} },
}

// inner is a change of the first request within a transaction, as if it stood alone.
func inner(change func(t *api.Txn)) func(t *api.Txn) {
	return func(t *api.Txn) {
		within := api.Txn{Req: t.Req.Ops[0]}
		within.Req.Acl = append(slices.Clone(within.Req.Acl), api.Entry{})
		within.Req.Who = append(slices.Clone(within.Req.Who), api.Id{})
		change(&within)
		t.Req.Ops = slices.Clone(t.Req.Ops)
		t.Req.Ops[0] = within.Req
	}
}

func TestSame(t *testing.T) {
	if !txn.Same(odd(), odd()) || !txn.Same(api.Txn{}, api.Txn{}) || txn.Same(odd(), api.Txn{}) || txn.Same(api.Txn{}, odd()) {
		t.Errorf("P4.6: Same of what may not be")
	}
	for i, change := range changes {
		x := odd()
		change(&x)
		if txn.Same(x, odd()) || txn.Same(odd(), x) || !txn.Same(x, x) {
			t.Errorf("P4.6: change %d is not seen", i)
		}
		if i < 5 { // a zxid, an origin: requests have none
			continue
		}
		x = odd()
		inner(change)(&x)
		if txn.Same(x, odd()) || txn.Same(odd(), x) || !txn.Same(x, x) {
			t.Errorf("P4.6: change %d within a request is not seen", i)
		}
	}
}

func TestSameDeep(t *testing.T) {
	x, y := odd(), odd()
	y.Req.Ops[0].Ops[1].Data[0]++
	if txn.Same(x, y) || txn.Same(y, x) {
		t.Errorf("P4.6: a change two levels down is not seen")
	}
}

// TestSameOfNoElements: nil and no elements are the same, whatever room there is (R4).
func TestSameOfNoElements(t *testing.T) {
	a := api.Txn{Req: api.Request{Ops: []api.Request{{}}}}
	b := api.Txn{Req: api.Request{Data: make([]byte, 0, 5), Acl: []api.Entry{}, Who: []api.Id{}, Ops: []api.Request{{Data: []byte{}, Acl: []api.Entry{}, Who: []api.Id{}, Ops: []api.Request{}}}}}
	if !txn.Same(a, b) || !txn.Same(b, a) || !txn.Same(txn.Clone(a), b) || !txn.Same(txn.Clone(b), a) {
		t.Errorf("R4: nil and no elements are not the same")
	}
	if txn.Same(a, api.Txn{}) {
		t.Errorf("P4.6: a request that is zero is one all the same")
	}
}

// spoil writes over every list of x and its spare room, one at a time, and looks that the others stay what want says.
func spoil(t *testing.T, x, want api.Txn) {
	t.Helper()
	spoilRequest(t, &x.Req, want.Req)
}

func spoilRequest(t *testing.T, r *api.Request, want api.Request) {
	t.Helper()
	same := func(what string) {
		t.Helper()
		if !txn.Same(api.Txn{Req: *r}, api.Txn{Req: want}) {
			t.Errorf("R5: %s shares memory with another list", what)
		}
	}
	over(r.Data, 0xEE)
	r.Data = bytes.Clone(want.Data)
	same("Data")
	over(r.Acl, api.Entry{Perms: 99})
	r.Acl = slices.Clone(want.Acl)
	same("Acl")
	over(r.Who, api.Id{Name: "?"})
	r.Who = slices.Clone(want.Who)
	same("Who")
	for i := range r.Ops {
		spoilRequest(t, &r.Ops[i], want.Ops[i])
		same("a request of Ops")
	}
	over(r.Ops, api.Request{Kind: 99})
	r.Ops = slices.Clone(want.Ops)
	same("Ops")
}

// over writes over a list and all the room that it has.
func over[T any](l []T, x T) {
	l = l[:cap(l)]
	for i := range l {
		l[i] = x
	}
}

func TestClone(t *testing.T) {
	all := []api.Txn{{}, odd(), whole(full(api.Multi)), whole(plain(api.Open))}
	for kind := int8(1); kind <= 12; kind++ {
		all = append(all, whole(full(kind)))
	}
	for i, x := range all {
		kept := laid(x)
		y := txn.Clone(x)
		if !txn.Same(x, y) || !txn.Same(y, x) || !bytes.Equal(laid(y), kept) {
			t.Errorf("P4.6: Clone of row %d: %v", i, y)
		}
		spoil(t, y, x)
		if !bytes.Equal(laid(x), kept) {
			t.Errorf("R5: row %d: a clone's memory is its original's", i)
		}
	}
}

// TestCloneStays: what is written over the original does not reach its clone, nor what is put behind a list.
func TestCloneStays(t *testing.T) {
	x := odd()
	y := txn.Clone(x)
	spoil(t, x, odd())
	if !txn.Same(y, odd()) {
		t.Errorf("R5: a clone lies in its original's memory: %v", y)
	}
}

// TestCloneOfShared: lists of a transaction that are one memory are each their own in its clone.
func TestCloneOfShared(t *testing.T) {
	data := []byte{1, 2, 3, 4, 5, 6}
	acl := []api.Entry{{Perms: 1}, {Perms: 2}, {Perms: 3}}
	op := api.Request{Kind: api.Create, Data: data[:2], Acl: acl[:1]}
	x := api.Txn{Req: api.Request{Data: data[:0], Acl: acl[:0], Ops: []api.Request{op, op, {Data: data[2:4], Acl: acl[1:]}}}}
	want := api.Txn{Req: api.Request{Ops: []api.Request{
		{Kind: api.Create, Data: []byte{1, 2}, Acl: []api.Entry{{Perms: 1}}},
		{Kind: api.Create, Data: []byte{1, 2}, Acl: []api.Entry{{Perms: 1}}},
		{Data: []byte{3, 4}, Acl: []api.Entry{{Perms: 2}, {Perms: 3}}}}}}
	y := txn.Clone(x)
	spoil(t, y, want)
	if !bytes.Equal(data, []byte{1, 2, 3, 4, 5, 6}) || acl[0].Perms != 1 || acl[2].Perms != 3 {
		t.Errorf("R5: a clone's spare room is its original's")
	}
}

// nested is a request with so many within one another.
func nested(depth int, last byte) api.Request {
	r := api.Request{Kind: api.Create, Data: []byte{last}}
	for range depth {
		r = api.Request{Kind: api.Multi, Ops: []api.Request{r}}
	}
	return r
}

// TestNested: 2^16 requests within one another, which is what the document bounds.
func TestNested(t *testing.T) {
	x, y, other := whole(nested(1<<16, 1)), whole(nested(1<<16, 1)), whole(nested(1<<16, 2))
	if !txn.Same(x, y) || txn.Same(x, other) || txn.Same(x, whole(nested(1<<16-1, 1))) {
		t.Errorf("P4.6: Same of what is nested deeply")
	}
	c := txn.Clone(x)
	if !txn.Same(c, y) {
		t.Errorf("P4.6: Clone of what is nested deeply")
	}
	if txn.CheckRequest(x.Req) != api.ErrTxn || txn.Check(x) != api.ErrTxn {
		t.Errorf("P4.4: what is nested deeply may not be")
	}
}
