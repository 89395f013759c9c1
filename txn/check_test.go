package txn_test

import (
	"bytes"
	"math"
	"slices"
	"strings"
	"testing"

	"lagoon/api"
	"lagoon/txn"
)

// checks looks what CheckRequest says of a request, and Check and Write of a transaction of it: OK, if it may be and is of a kind that writes.
func checks(t *testing.T, what string, r api.Request, may bool) {
	t.Helper()
	want := api.ErrTxn
	if may {
		want = api.OK
	}
	if e := txn.CheckRequest(r); e != want {
		t.Errorf("P4.4: %s: CheckRequest: %d, not %d", what, e, want)
	}
	if r.Kind > api.Close {
		want = api.ErrTxn
	}
	checksTxn(t, what, whole(r), want == api.OK)
}

func checksTxn(t *testing.T, what string, x api.Txn, may bool) {
	t.Helper()
	want := api.ErrTxn
	if may {
		want = api.OK
	}
	if e := txn.Check(x); e != want {
		t.Errorf("P4.4: %s: Check: %d, not %d", what, e, want)
	}
	b, e := txn.Write(x)
	if e != want || may != (len(b) > 0) {
		t.Errorf("P4.5: %s: Write: %d bytes, %d, not %d", what, len(b), e, want)
	}
	// what may not be is not read either, even if somebody has laid it as what may be
	if y, e := txn.Read(laid(x)); !may && isLaidWhole(x) && (e != api.ErrTxn || !txn.Same(y, api.Txn{})) {
		t.Errorf("P4.5: %s: Read of its bytes: %v, %d", what, y, e)
	}
}

// isLaidWhole tells whether the bytes of a request have all of it: a field that its kind does not name is in none.
func isLaidWhole(x api.Txn) bool {
	for _, r := range append([]api.Request{x.Req}, x.Req.Ops...) {
		for _, f := range fieldNames {
			if !names(r.Kind, f) && !isZero(r, f) {
				return false
			}
		}
	}
	return !slices.ContainsFunc(x.Req.Ops, func(op api.Request) bool { return op.Session != 0 || len(op.Who) > 0 })
}

func TestKinds(t *testing.T) {
	for kind := -128; kind < 128; kind++ {
		r := plain(int8(kind))
		checks(t, "a plain request of kind "+itoa(kind), r, kind >= 1 && kind <= 12)
		checks(t, "a full request of kind "+itoa(kind), full(int8(kind)), kind >= 1 && kind <= 12)
	}
	checks(t, "nothing", api.Request{}, false)
}

// itoa is small enough to be without a library.
func itoa(n int) string {
	if n < 0 {
		return "-" + itoa(-n)
	}
	if n < 10 {
		return string(rune('0' + n))
	}
	return itoa(n/10) + itoa(n%10)
}

// filling puts the least into a field that is not zero; of some fields there are several ways.
var filling = []struct {
	field string
	put   func(r *api.Request)
}{
	{"Path", func(r *api.Request) { r.Path = "/" }},
	{"Path", func(r *api.Request) { r.Path = "\x00" }},
	{"Data", func(r *api.Request) { r.Data = []byte{0} }},
	{"Acl", func(r *api.Request) { r.Acl = []api.Entry{{}} }},
	{"Version", func(r *api.Request) { r.Version = 1 }},
	{"Version", func(r *api.Request) { r.Version = -1 }},
	{"Version", func(r *api.Request) { r.Version = math.MinInt32 }},
	{"Ephemeral", func(r *api.Request) { r.Ephemeral = true }},
	{"Sequence", func(r *api.Request) { r.Sequence = true }},
	{"Session", func(r *api.Request) { r.Session = 1 }},
	{"Session", func(r *api.Request) { r.Session = math.MaxInt64 }},
	{"Timeout", func(r *api.Request) { r.Timeout = 1 }},
	{"Who", func(r *api.Request) { r.Who = []api.Id{{}} }},
	{"Ops", func(r *api.Request) { r.Ops = []api.Request{{Kind: api.Check}} }},
}

// TestNamed: each field is filled alone, in a request that has nothing else and in one that has all; it may be just where its kind names it.
func TestNamed(t *testing.T) {
	for kind := int8(1); kind <= 12; kind++ {
		for i, f := range filling {
			what := f.field + " (row " + itoa(i) + ") in kind " + itoa(int(kind))
			r := plain(kind)
			f.put(&r)
			checks(t, what, r, names(kind, f.field))
			r = full(kind)
			f.put(&r)
			checks(t, what+", full", r, names(kind, f.field))
		}
	}
}

// TestNamedNegative: what is not named may not be below zero either.
func TestNamedNegative(t *testing.T) {
	for kind := int8(1); kind <= 12; kind++ {
		for _, n := range []int64{-1, math.MinInt64, math.MinInt32} {
			r := plain(kind)
			r.Session = n
			checks(t, "a Session below 0 in kind "+itoa(int(kind)), r, false)
			r = plain(kind)
			r.Timeout = int32(max(n, math.MinInt32))
			checks(t, "a Timeout below 0 in kind "+itoa(int(kind)), r, false)
		}
	}
}

// TestNamedInMulti: the same of a Multi's requests, which have neither Session nor Who.
func TestNamedInMulti(t *testing.T) {
	for kind := int8(-128); kind < 127; kind++ {
		may := kind >= 1 && kind <= 5
		multi := func(op api.Request) api.Request {
			return api.Request{Kind: api.Multi, Ops: []api.Request{{Kind: api.Check}, op, {Kind: api.Check}}}
		}
		checks(t, "a Multi of kind "+itoa(int(kind)), multi(plain(kind)), may)
		for i, f := range filling {
			r := plain(kind)
			f.put(&r)
			own := f.field == "Session" || f.field == "Who"
			checks(t, f.field+" (row "+itoa(i)+") in a Multi's kind "+itoa(int(kind)), multi(r), may && names(kind, f.field) && !own)
		}
	}
}

// TestNoElements: a list of no elements that is not named is none (R4).
func TestNoElements(t *testing.T) {
	for kind := int8(1); kind <= 12; kind++ {
		r := plain(kind)
		r.Data, r.Acl, r.Who = []byte{}, []api.Entry{}, []api.Id{}
		if kind != api.Multi {
			r.Ops = []api.Request{}
		}
		checks(t, "lists of no elements in kind "+itoa(int(kind)), r, true)
	}
	op := api.Request{Kind: api.Delete, Data: []byte{}, Acl: []api.Entry{}, Who: []api.Id{}, Ops: []api.Request{}}
	checks(t, "lists of no elements in a Multi", api.Request{Kind: api.Multi, Ops: []api.Request{op}}, true)
	checks(t, "a Multi of no elements", api.Request{Kind: api.Multi, Ops: []api.Request{}}, false)
	checks(t, "a Multi of nil", api.Request{Kind: api.Multi}, false)
}

// bounds puts a value at a bound, or one beyond it, into a field.
var bounds = []struct {
	field string
	may   bool
	put   func(r *api.Request)
}{
	{"Path", true, func(r *api.Request) { r.Path = strings.Repeat("/a", 32) }},
	{"Path", true, func(r *api.Request) { r.Path = strings.Repeat("\xFF", 64) }},
	{"Path", false, func(r *api.Request) { r.Path = strings.Repeat("/a", 32) + "b" }},
	{"Path", false, func(r *api.Request) { r.Path = strings.Repeat("é", 33) }}, // bytes are counted, not runes
	{"Data", true, func(r *api.Request) { r.Data = make([]byte, 96) }},
	{"Data", true, func(r *api.Request) { r.Data = make([]byte, 96, 200) }},
	{"Data", false, func(r *api.Request) { r.Data = make([]byte, 97) }},
	{"Acl", true, func(r *api.Request) { r.Acl = make([]api.Entry, 4) }},
	{"Acl", false, func(r *api.Request) { r.Acl = make([]api.Entry, 5) }},
	{"Acl", true, func(r *api.Request) { r.Acl = []api.Entry{{Perms: -128}, {Perms: 127}, {Perms: 31}, {Perms: 32}} }},
	{"Acl", true, func(r *api.Request) { r.Acl = []api.Entry{{}, {Who: wide()}} }},
	{"Acl", false, func(r *api.Request) { r.Acl = []api.Entry{{}, {Who: api.Id{Scheme: strings.Repeat("x", 25)}}} }},
	{"Acl", false, func(r *api.Request) { r.Acl = []api.Entry{{Who: api.Id{Name: strings.Repeat("x", 25)}}, {}} }},
	{"Version", true, func(r *api.Request) { r.Version = math.MinInt32 }},
	{"Version", true, func(r *api.Request) { r.Version = math.MaxInt32 }},
	{"Session", true, func(r *api.Request) { r.Session = math.MaxInt64 }},
	{"Session", false, func(r *api.Request) { r.Session = -1 }},
	{"Session", false, func(r *api.Request) { r.Session = math.MinInt64 }},
	{"Timeout", true, func(r *api.Request) { r.Timeout = 1 }},
	{"Timeout", true, func(r *api.Request) { r.Timeout = 1000 }},
	{"Timeout", false, func(r *api.Request) { r.Timeout = 0 }},
	{"Timeout", false, func(r *api.Request) { r.Timeout = 1001 }},
	{"Timeout", false, func(r *api.Request) { r.Timeout = -1 }},
	{"Timeout", false, func(r *api.Request) { r.Timeout = math.MinInt32 }},
	{"Timeout", false, func(r *api.Request) { r.Timeout = math.MaxInt32 }},
	{"Who", true, func(r *api.Request) { r.Who = make([]api.Id, 4) }},
	{"Who", false, func(r *api.Request) { r.Who = make([]api.Id, 5) }},
	{"Who", true, func(r *api.Request) { r.Who = []api.Id{wide(), {}, wide()} }},
	{"Who", false, func(r *api.Request) { r.Who = []api.Id{{}, {}, {}, {Scheme: strings.Repeat("x", 25)}} }},
	{"Who", false, func(r *api.Request) { r.Who = []api.Id{{Name: strings.Repeat("x", 25)}} }},
	{"Ops", true, func(r *api.Request) { r.Ops = wideOps(1) }},
	{"Ops", true, func(r *api.Request) { r.Ops = wideOps(8) }},
	{"Ops", false, func(r *api.Request) { r.Ops = wideOps(9) }},
	{"Ops", false, func(r *api.Request) { r.Ops = []api.Request{{}} }},
	{"Ops", false, func(r *api.Request) { r.Ops = append(wideOps(7), api.Request{Kind: api.GetAcl}) }},
	{"Ops", false, func(r *api.Request) { r.Ops = append(wideOps(7), api.Request{Kind: api.Multi, Ops: wideOps(1)}) }},
	{"Ops", false, func(r *api.Request) { r.Ops = append(wideOps(7), api.Request{Kind: api.Open, Timeout: 5}) }},
	{"Ops", false, func(r *api.Request) { r.Ops = append(wideOps(7), api.Request{Kind: api.Close, Session: 5}) }},
}

func TestBounds(t *testing.T) {
	for kind := int8(1); kind <= 12; kind++ {
		for i, c := range bounds {
			if !names(kind, c.field) {
				continue
			}
			what := "the bound of " + c.field + " (row " + itoa(i) + ") in kind " + itoa(int(kind))
			r := plain(kind)
			c.put(&r)
			checks(t, what, r, c.may)
			r = full(kind)
			c.put(&r)
			checks(t, what+", full", r, c.may)
			if kind > api.Check || c.field == "Session" || c.field == "Who" {
				continue
			}
			r = plain(kind)
			c.put(&r)
			checks(t, what+", in a Multi", api.Request{Kind: api.Multi, Ops: []api.Request{{Kind: api.Create}, r}}, c.may)
		}
	}
	checks(t, "a Close of session 0", api.Request{Kind: api.Close}, false)
	checks(t, "a Close of session 1", api.Request{Kind: api.Close, Session: 1}, true)
}

// TestMultiOfMany: a list that is much too long is not one because its beginning would be.
func TestMultiOfMany(t *testing.T) {
	for n := range 20 {
		ops := slices.Repeat([]api.Request{{Kind: api.Create, Path: "/a"}}, n)
		checks(t, "a Multi of "+itoa(n), api.Request{Kind: api.Multi, Session: 1, Who: []api.Id{{Scheme: "name", Name: "x"}}, Ops: ops}, n >= 1 && n <= 8)
	}
	checks(t, "a Multi of 2^16", api.Request{Kind: api.Multi, Ops: slices.Repeat([]api.Request{{Kind: api.Create}}, 1<<16)}, false)
}

// TestFourthExample: the chapter's own.
func TestFourthExample(t *testing.T) {
	create := api.Request{Kind: api.Create, Path: "/a"}
	multi := func(op api.Request) api.Request { return api.Request{Kind: api.Multi, Ops: []api.Request{op}} }
	checks(t, "a Delete with Data", api.Request{Kind: api.Delete, Path: "/a", Data: []byte{1}}, false)
	checks(t, "a Multi without Ops", api.Request{Kind: api.Multi}, false)
	checks(t, "a Multi of a Multi", multi(multi(create)), false)
	checks(t, "a Multi of a GetData", multi(api.Request{Kind: api.GetData, Path: "/a"}), false)
	checks(t, "a Multi of a Create with a Session", multi(api.Request{Kind: api.Create, Path: "/a", Session: 1}), false)
	checks(t, "a Multi of a Create with a Who", multi(api.Request{Kind: api.Create, Path: "/a", Who: []api.Id{{}}}), false)
	checks(t, "Open with Timeout 0", api.Request{Kind: api.Open}, false)
	checks(t, "Open with Timeout 1001", api.Request{Kind: api.Open, Timeout: 1001}, false)
	get := api.Request{Kind: api.GetData, Path: "/a"}
	if e := txn.CheckRequest(get); e != api.OK {
		t.Errorf("P4.4: CheckRequest of GetData: %d", e)
	}
	if e := txn.Check(whole(get)); e != api.ErrTxn {
		t.Errorf("P4.4: Check of GetData: %d", e)
	}
}

func TestZxidsThatMayBe(t *testing.T) {
	for _, x := range anyZxids() {
		zero := x == api.Zxid{}
		may := zero || x.Epoch >= 1 && x.Epoch <= 1<<31-1 && x.N >= 1
		y := whole(api.Request{Kind: api.Create})
		y.Zxid = x
		checksTxn(t, "zxid "+itoa(int(x.Epoch))+"."+itoa(int(x.N)), y, may)
	}
}

func TestOriginsThatMayBe(t *testing.T) {
	for server := -128; server < 128; server++ {
		x := whole(api.Request{Kind: api.Create})
		x.From.Server = int8(server)
		checksTxn(t, "server "+itoa(server), x, server >= 0 && server <= 6)
	}
	for _, number := range []int64{0, 1, math.MaxInt64, -1, math.MinInt64} {
		x := whole(api.Request{Kind: api.Create})
		x.From.Number = number
		checksTxn(t, "a number of an origin", x, number >= 0)
	}
	for _, boot := range edges {
		x := whole(api.Request{Kind: api.Create})
		x.From.Boot = boot
		checksTxn(t, "boot "+itoa(int(boot)), x, true)
	}
	checksTxn(t, "nobody's, not proposed yet", api.Txn{Req: api.Request{Kind: api.Create}}, true)
	checksTxn(t, "nothing", api.Txn{}, false)
}

// TestCheckLeavesWhatItIsGiven: no list is changed, its spare room neither.
func TestCheckLeavesWhatItIsGiven(t *testing.T) {
	x := whole(full(api.Multi))
	x.Req.Ops[0].Data = append(make([]byte, 0, 200), x.Req.Ops[0].Data...)
	kept := laid(x)
	txn.CheckRequest(x.Req)
	txn.Check(x)
	txn.Write(x)
	txn.Same(x, x)
	txn.Clone(x)
	txn.Rises(z(0, 0), []api.Txn{x})
	if !bytes.Equal(laid(x), kept) {
		t.Errorf("R5: a transaction was changed")
	}
	if room := x.Req.Ops[0].Data[96:200]; !bytes.Equal(room, make([]byte, 104)) {
		t.Errorf("R5: the spare room was changed")
	}
}
