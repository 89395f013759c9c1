package txn_test

import (
	"bytes"
	"encoding/binary"
	"math/rand/v2"
	"reflect"
	"slices"
	"strings"

	"lagoon/api"
)

// fieldNames are a request's fields beside its kind, in the struct's order.
var fieldNames = []string{"Path", "Data", "Acl", "Version", "Ephemeral", "Sequence", "Session", "Timeout", "Who", "Ops"}

// named is the document's table of what the kinds name.
var named = map[int8][]string{
	1:  {"Path", "Data", "Acl", "Ephemeral", "Sequence", "Session", "Who"},
	2:  {"Path", "Version", "Session", "Who"},
	3:  {"Path", "Data", "Version", "Session", "Who"},
	4:  {"Path", "Acl", "Version", "Session", "Who"},
	5:  {"Path", "Version", "Session", "Who"},
	6:  {"Session", "Who", "Ops"},
	7:  {"Timeout"},
	8:  {"Session"},
	9:  {"Path", "Session", "Who"},
	10: {"Path", "Session", "Who"},
	11: {"Path", "Session", "Who"},
	12: {"Path", "Session", "Who"},
}

// names tells whether a kind names a field.
func names(kind int8, field string) bool { return slices.Contains(named[kind], field) }

// isZero tells whether a field of a request is zero, a list without elements too.
func isZero(r api.Request, field string) bool {
	v := reflect.ValueOf(r).FieldByName(field)
	return v.IsZero() || v.Kind() == reflect.Slice && v.Len() == 0
}

// mayBe is what the document says of a request, without a look at the program.
func mayBe(r api.Request, inMulti bool) bool {
	if r.Kind < 1 || r.Kind > 12 || inMulti && (r.Kind > 5 || r.Session != 0 || len(r.Who) > 0) {
		return false
	}
	for _, f := range fieldNames {
		if !names(r.Kind, f) && !isZero(r, f) {
			return false
		}
	}
	ids := slices.Clone(r.Who)
	for _, e := range r.Acl {
		ids = append(ids, e.Who)
	}
	for _, id := range ids {
		if len(id.Scheme) > 24 || len(id.Name) > 24 {
			return false
		}
	}
	for _, op := range r.Ops {
		if !mayBe(op, true) {
			return false
		}
	}
	return len(r.Path) <= 64 && len(r.Data) <= 96 && len(r.Acl) <= 4 && len(r.Who) <= 4 && r.Session >= 0 &&
		(r.Kind != 6 || len(r.Ops) >= 1 && len(r.Ops) <= 8) &&
		(r.Kind != 7 || r.Timeout >= 1 && r.Timeout <= 1000) &&
		(r.Kind != 8 || r.Session >= 1)
}

// mayBeTxn is what it says of a transaction.
func mayBeTxn(t api.Txn) bool {
	zero := t.Zxid.Epoch == 0 && t.Zxid.N == 0
	return (zero || t.Zxid.Epoch >= 1 && t.Zxid.Epoch < 1<<31 && t.Zxid.N >= 1) &&
		t.From.Server >= 0 && t.From.Server <= 6 && t.From.Number >= 0 && mayBe(t.Req, false) && t.Req.Kind <= 8
}

// sized lays a text or a buffer as the document says.
func sized(s string) []byte {
	return append(binary.BigEndian.AppendUint32(nil, uint32(len(s))), s...)
}

func truth(v bool) []byte {
	if v {
		return []byte{1}
	}
	return []byte{0}
}

func laidIds(l []api.Id) []byte {
	out := binary.BigEndian.AppendUint32(nil, uint32(len(l)))
	for _, id := range l {
		out = append(out, append(sized(id.Scheme), sized(id.Name)...)...)
	}
	return out
}

func laidAcl(l []api.Entry) []byte {
	out := binary.BigEndian.AppendUint32(nil, uint32(len(l)))
	for _, e := range l {
		out = append(append(append(out, byte(e.Perms)), sized(e.Who.Scheme)...), sized(e.Who.Name)...)
	}
	return out
}

func laidOps(l []api.Request) []byte {
	out := binary.BigEndian.AppendUint32(nil, uint32(len(l)))
	for _, op := range l {
		out = append(out, laidRequest(op, true)...)
	}
	return out
}

func laidRequest(r api.Request, inMulti bool) []byte {
	field := map[string][]byte{
		"Path":      sized(r.Path),
		"Data":      sized(string(r.Data)),
		"Acl":       laidAcl(r.Acl),
		"Version":   binary.BigEndian.AppendUint32(nil, uint32(r.Version)),
		"Ephemeral": truth(r.Ephemeral),
		"Sequence":  truth(r.Sequence),
		"Session":   binary.BigEndian.AppendUint64(nil, uint64(r.Session)),
		"Timeout":   binary.BigEndian.AppendUint32(nil, uint32(r.Timeout)),
		"Who":       laidIds(r.Who),
		"Ops":       laidOps(r.Ops),
	}
	out := []byte{byte(r.Kind)}
	for _, f := range fieldNames {
		if names(r.Kind, f) && !(inMulti && (f == "Session" || f == "Who")) {
			out = append(out, field[f]...)
		}
	}
	return out
}

// laid is a transaction's bytes by the document's words alone; of one that may not be too.
func laid(t api.Txn) []byte {
	out := binary.BigEndian.AppendUint32(nil, t.Zxid.Epoch)
	out = binary.BigEndian.AppendUint32(out, t.Zxid.N)
	out = append(out, byte(t.From.Server))
	out = binary.BigEndian.AppendUint32(out, t.From.Boot)
	out = binary.BigEndian.AppendUint64(out, uint64(t.From.Number))
	return append(out, laidRequest(t.Req, false)...)
}

// plain is a request of a kind of which as much as may be is zero.
func plain(kind int8) api.Request {
	r := api.Request{Kind: kind}
	switch kind {
	case api.Multi:
		r.Ops = []api.Request{{Kind: api.Delete}}
	case api.Open:
		r.Timeout = 1
	case api.Close:
		r.Session = 1
	}
	return r
}

// wide is an id, and wideOps are requests, at all their bounds.
func wide() api.Id {
	return api.Id{Scheme: strings.Repeat("s", api.MaxId), Name: strings.Repeat("n", api.MaxId)}
}

func wideOps(n int) []api.Request {
	var out []api.Request
	for i := range n {
		op := full([]int8{api.Create, api.Delete, api.SetData, api.SetAcl, api.Check}[i%5])
		op.Session, op.Who = 0, nil
		out = append(out, op)
	}
	return out
}

// full is a request of a kind at all its bounds.
func full(kind int8) api.Request {
	r := api.Request{Kind: kind}
	for _, f := range named[kind] {
		switch f {
		case "Path":
			r.Path = strings.Repeat("p", api.MaxPath)
		case "Data":
			r.Data = bytes.Repeat([]byte{0xD0}, api.MaxData)
		case "Acl":
			r.Acl = slices.Repeat([]api.Entry{{Perms: -128, Who: wide()}}, api.MaxAcl)
		case "Version":
			r.Version = -1 << 31
		case "Ephemeral":
			r.Ephemeral = true
		case "Sequence":
			r.Sequence = true
		case "Session":
			r.Session = 1<<63 - 1
		case "Timeout":
			r.Timeout = api.MaxTimeout
		case "Who":
			r.Who = slices.Repeat([]api.Id{wide()}, api.MaxIds)
		case "Ops":
			r.Ops = wideOps(api.MaxOps)
		}
	}
	return r
}

// whole is a transaction of a request, with the rest at its ordinary.
func whole(r api.Request) api.Txn {
	return api.Txn{Zxid: z(1, 2), From: api.Origin{Server: 3, Boot: 4, Number: 5}, Req: r}
}

// near is a small number, or one at a bound, now and then the one beyond it.
func near(g *rand.Rand, bound int) int {
	if g.IntN(3) == 0 {
		return bound
	}
	if g.IntN(12) == 0 {
		return bound + 1
	}
	return g.IntN(4) % (bound + 1)
}

func anyText(g *rand.Rand, bound int) string {
	b := make([]byte, near(g, bound))
	for i := range b {
		b[i] = byte(g.UintN(256))
	}
	return string(b)
}

func anyId(g *rand.Rand) api.Id {
	return api.Id{Scheme: anyText(g, api.MaxId), Name: anyText(g, api.MaxId)}
}

// fill puts something into a field, mostly what may be there.
func fill(g *rand.Rand, r *api.Request, field string) {
	switch field {
	case "Path":
		r.Path = anyText(g, api.MaxPath)
	case "Data":
		r.Data = []byte(anyText(g, api.MaxData))
	case "Acl":
		for range near(g, api.MaxAcl) {
			r.Acl = append(r.Acl, api.Entry{Perms: int8(g.IntN(256) - 128), Who: anyId(g)})
		}
	case "Version":
		r.Version = int32(g.Uint32()) >> g.IntN(32)
	case "Ephemeral":
		r.Ephemeral = g.IntN(2) == 0
	case "Sequence":
		r.Sequence = g.IntN(2) == 0
	case "Session":
		r.Session = int64(g.Uint64()>>1) >> g.IntN(64)
		if g.IntN(20) == 0 {
			r.Session = -r.Session
		}
	case "Timeout":
		r.Timeout = int32(near(g, api.MaxTimeout))
	case "Who":
		for range near(g, api.MaxIds) {
			r.Who = append(r.Who, anyId(g))
		}
	case "Ops":
		for range near(g, api.MaxOps) {
			r.Ops = append(r.Ops, anyOp(g))
		}
	}
}

func anyOp(g *rand.Rand) api.Request {
	op := anyRequest(g, int8(1+g.IntN(5)))
	if g.IntN(10) > 0 {
		op.Session, op.Who = 0, nil
	}
	return op
}

// anyRequest is one of a kind, with now and then a field that is not named.
func anyRequest(g *rand.Rand, kind int8) api.Request {
	r := api.Request{Kind: kind}
	for _, f := range named[kind] {
		fill(g, &r, f)
	}
	if g.IntN(20) == 0 && kind != api.Multi {
		fill(g, &r, fieldNames[g.IntN(len(fieldNames)-1)])
	}
	return r
}

// anyTxn is one that mostly may be.
func anyTxn(g *rand.Rand) api.Txn {
	t := api.Txn{Req: anyRequest(g, int8(1+g.IntN(8)))}
	if g.IntN(6) > 0 {
		t.Zxid = z(g.Uint32()>>(1+g.IntN(31)), g.Uint32()>>g.IntN(32))
	}
	t.From = api.Origin{Server: int8(g.IntN(7)), Boot: g.Uint32(), Number: int64(g.Uint64() >> (1 + g.IntN(63)))}
	switch g.IntN(40) {
	case 0:
		t.From.Server = int8(g.IntN(256) - 128)
	case 1:
		t.From.Number = -1 - t.From.Number
	case 2:
		t.Zxid.Epoch |= 1 << 31
	case 3:
		t.Req.Kind = int8(g.IntN(256) - 128)
	}
	return t
}
