package txn_test

import (
	"bytes"
	"slices"
	"testing"

	"lagoon/api"
	"lagoon/txn"
)

// head is what stands ahead of the request in the bytes of whole.
var head = []byte{0, 0, 0, 1, 0, 0, 0, 2, 3, 0, 0, 0, 4, 0, 0, 0, 0, 0, 0, 0, 5}

var eight = make([]byte, 8)

// rows are requests with the bytes that stand behind head, laid by hand.
var rows = []struct {
	r api.Request
	b []byte
}{
	{api.Request{Kind: api.Delete, Path: "/a", Version: -1},
		slices.Concat([]byte{2, 0, 0, 0, 2, 0x2F, 0x61, 255, 255, 255, 255}, eight, []byte{0, 0, 0, 0})},
	{api.Request{Kind: api.Create, Path: "/b", Data: []byte{7, 8}, Acl: []api.Entry{{Perms: -1, Who: api.Id{Scheme: "w", Name: "an"}}}, Ephemeral: true, Session: 258, Who: []api.Id{{Scheme: "ip"}, {Name: "x"}}},
		[]byte{1, 0, 0, 0, 2, '/', 'b', 0, 0, 0, 2, 7, 8, 0, 0, 0, 1, 255, 0, 0, 0, 1, 'w', 0, 0, 0, 2, 'a', 'n', 1, 0, 0, 0, 0, 0, 0, 0, 1, 2, 0, 0, 0, 2, 0, 0, 0, 2, 'i', 'p', 0, 0, 0, 0, 0, 0, 0, 0, 0, 0, 0, 1, 'x'}},
	{api.Request{Kind: api.Create, Sequence: true},
		slices.Concat([]byte{1, 0, 0, 0, 0, 0, 0, 0, 0, 0, 0, 0, 0, 0, 1}, eight, []byte{0, 0, 0, 0})},
	{api.Request{Kind: api.SetData, Path: "c", Data: []byte{0}, Version: 258, Session: 1},
		[]byte{3, 0, 0, 0, 1, 'c', 0, 0, 0, 1, 0, 0, 0, 1, 2, 0, 0, 0, 0, 0, 0, 0, 1, 0, 0, 0, 0}},
	{api.Request{Kind: api.SetAcl, Path: "", Acl: []api.Entry{{Perms: 31}, {}}, Version: 1},
		slices.Concat([]byte{4, 0, 0, 0, 0, 0, 0, 0, 2, 31}, eight, []byte{0}, eight, []byte{0, 0, 0, 1}, eight, []byte{0, 0, 0, 0})},
	{api.Request{Kind: api.Check, Path: "\xFF", Version: 3},
		slices.Concat([]byte{5, 0, 0, 0, 1, 255, 0, 0, 0, 3}, eight, []byte{0, 0, 0, 0})},
	{api.Request{Kind: api.Multi, Session: 9, Who: []api.Id{{Scheme: "a", Name: "b"}}, Ops: []api.Request{{Kind: api.Delete, Version: -2}, {Kind: api.Create, Path: "d", Sequence: true}, {Kind: api.SetData, Data: []byte{6}}, {Kind: api.SetAcl}, {Kind: api.Check, Path: "e"}}},
		[]byte{6, 0, 0, 0, 0, 0, 0, 0, 9, 0, 0, 0, 1, 0, 0, 0, 1, 'a', 0, 0, 0, 1, 'b', 0, 0, 0, 5,
			2, 0, 0, 0, 0, 255, 255, 255, 254,
			1, 0, 0, 0, 1, 'd', 0, 0, 0, 0, 0, 0, 0, 0, 0, 1,
			3, 0, 0, 0, 0, 0, 0, 0, 1, 6, 0, 0, 0, 0,
			4, 0, 0, 0, 0, 0, 0, 0, 0, 0, 0, 0, 0,
			5, 0, 0, 0, 1, 'e', 0, 0, 0, 0}},
	{api.Request{Kind: api.Open, Timeout: 1000}, []byte{7, 0, 0, 3, 232}},
	{api.Request{Kind: api.Close, Session: 1<<32 + 1}, []byte{8, 0, 0, 0, 1, 0, 0, 0, 1}},
}

func TestRows(t *testing.T) {
	for i, c := range rows {
		x, want := whole(c.r), slices.Concat(head, c.b)
		b, e := txn.Write(x)
		if e != api.OK || !bytes.Equal(b, want) {
			t.Errorf("P4.5: row %d: Write: % x, %d, not % x", i, b, e, want)
		}
		y, e := txn.Read(want)
		if e != api.OK || !txn.Same(x, y) {
			t.Errorf("P4.5: row %d: Read: %v, %d, not %v", i, y, e, x)
		}
		if !bytes.Equal(laid(x), want) {
			t.Errorf("the test's own bytes of row %d: % x", i, laid(x))
		}
	}
	if n := len(head) + len(rows[0].b); n != 44 {
		t.Errorf("P4.5: the third example has %d bytes, not 44", n)
	}
}

// TestHead: each number ahead of the request in its own bytes.
func TestHead(t *testing.T) {
	x := api.Txn{Zxid: z(0x01020304, 0xF5060708), From: api.Origin{Server: 6, Boot: 0xF90A0B0C, Number: 0x0D0E0F1011121314}, Req: api.Request{Kind: api.Open, Timeout: 1}}
	want := []byte{1, 2, 3, 4, 0xF5, 6, 7, 8, 6, 0xF9, 10, 11, 12, 13, 14, 15, 16, 17, 18, 19, 20, 7, 0, 0, 0, 1}
	b, e := txn.Write(x)
	if e != api.OK || !bytes.Equal(b, want) {
		t.Errorf("P4.5: % x, %d", b, e)
	}
	if y, e := txn.Read(want); e != api.OK || !txn.Same(x, y) {
		t.Errorf("P4.5: %v, %d", y, e)
	}
	zero := append(make([]byte, 21), 7, 0, 0, 0, 1)
	if y, e := txn.Read(zero); e != api.OK || !txn.Same(y, api.Txn{Req: x.Req}) {
		t.Errorf("P4.5: of zeros: %v, %d", y, e)
	}
}

// refuses looks that bytes are no transaction's.
func refuses(t *testing.T, what string, b []byte) {
	t.Helper()
	if x, e := txn.Read(b); e != api.ErrTxn || !txn.Same(x, api.Txn{}) {
		t.Errorf("P4.5: %s: Read(% x): %v, %d", what, b, x, e)
	}
}

// reads looks that bytes are those of a transaction, and no beginning of them is, nor they with a byte more.
func reads(t *testing.T, x api.Txn, b []byte) {
	t.Helper()
	kept := bytes.Clone(b)
	y, e := txn.Read(b)
	if e != api.OK || !txn.Same(x, y) {
		t.Errorf("P4.5: Read(% x): %v, %d, not %v", b, y, e, x)
	}
	for n := range b {
		refuses(t, "a beginning", b[:n])
	}
	for _, more := range []byte{0, 1, 255} {
		refuses(t, "a byte more", append(bytes.Clone(b), more))
	}
	refuses(t, "twice", slices.Concat(b, b))
	if !bytes.Equal(b, kept) {
		t.Errorf("R5: Read changed its bytes")
	}
}

func TestCutAndMore(t *testing.T) {
	for _, c := range rows {
		reads(t, whole(c.r), slices.Concat(head, c.b))
	}
	for kind := int8(1); kind <= 8; kind++ {
		for _, r := range []api.Request{plain(kind), full(kind)} {
			reads(t, whole(r), laid(whole(r)))
		}
	}
}

// TestMost: the longest transaction, which has 3486 bytes, and what is longer than any.
func TestMost(t *testing.T) {
	x := whole(full(api.Multi))
	create := wideOps(1)[0]
	x.Req.Ops = slices.Repeat([]api.Request{create}, api.MaxOps)
	b, e := txn.Write(x)
	if e != api.OK || len(b) != 3486 {
		t.Errorf("P4.5: %d bytes, %d", len(b), e)
	}
	if y, e := txn.Read(b); e != api.OK || !txn.Same(x, y) {
		t.Errorf("P4.5: the longest is not read again: %d", e)
	}
	for _, n := range []int{3487, 4095, 4096, 4097, 1 << 20} {
		refuses(t, "more than any", append(bytes.Clone(b), make([]byte, n-len(b))...))
		if x, e := txn.Read(make([]byte, n)); e != api.ErrTxn || !txn.Same(x, api.Txn{}) {
			t.Errorf("P4.5: %d zeros: %d", n, e)
		}
	}
}

func TestNoBytes(t *testing.T) {
	refuses(t, "nil", nil)
	refuses(t, "no bytes", []byte{})
	for n := range 60 {
		refuses(t, "zeros", make([]byte, n))
		refuses(t, "ones", bytes.Repeat([]byte{255}, n))
	}
}

// TestTruths: a truth is 0 or 1, and no other number says it.
func TestTruths(t *testing.T) {
	create := api.Request{Kind: api.Create, Path: "/a", Data: []byte{1}}
	inMulti := api.Request{Kind: api.Multi, Ops: []api.Request{create}}
	b := laid(whole(create))
	at := len(b) - 14 // two truths, then a session and a list without ids
	m := laid(whole(inMulti))
	for n := range 256 {
		for which, text := range [][]byte{b, b, m, m} {
			places := []int{at, at + 1, len(m) - 2, len(m) - 1}
			turned := bytes.Clone(text)
			turned[places[which]] = byte(n)
			x, e := txn.Read(turned)
			if n > 1 {
				refuses(t, "a truth that is none", turned)
				continue
			}
			want := create
			want.Ephemeral, want.Sequence = which%2 == 0 && n == 1, which%2 == 1 && n == 1
			if which >= 2 {
				want = api.Request{Kind: api.Multi, Ops: []api.Request{want}}
			}
			if e != api.OK || !txn.Same(x, whole(want)) {
				t.Errorf("P4.5: truth %d of %d: %v, %d", which, n, x, e)
			}
		}
	}
}

// TestOtherKinds: the byte of a kind turned to every other one, of the request itself and of one in a Multi.
func TestOtherKinds(t *testing.T) {
	b := laid(whole(api.Request{Kind: api.Multi, Ops: []api.Request{{Kind: api.Delete, Path: "/a"}}}))
	at := len(b) - 11
	for kind := range 256 {
		turned := bytes.Clone(b)
		turned[at] = byte(kind)
		x, e := txn.Read(turned)
		if kind == 2 || kind == 5 { // what these two name is the same
			want := whole(api.Request{Kind: api.Multi, Ops: []api.Request{{Kind: int8(kind), Path: "/a"}}})
			if e != api.OK || !txn.Same(x, want) {
				t.Errorf("P4.5: a Multi's kind %d: %v, %d", kind, x, e)
			}
			continue
		}
		refuses(t, "another kind in a Multi", turned)
	}
	for kind := range 256 {
		turned := bytes.Clone(b)
		turned[len(head)] = byte(kind)
		if kind != 6 {
			refuses(t, "another kind", turned)
		}
	}
	for kind := int8(9); kind <= 12; kind++ {
		refuses(t, "a kind that reads", laid(whole(plain(kind))))
	}
}

// TestMultiInMulti: bytes that would go down for ever are left at the first Multi within another.
func TestMultiInMulti(t *testing.T) {
	for n := 1; n < 300; n++ {
		b := bytes.Clone(head)
		b = append(append(append(b, 6), make([]byte, 12)...), 0, 0, 0, 1)
		for range n {
			b = append(b, 6, 0, 0, 0, 1)
		}
		refuses(t, "Multis within a Multi", b)
		refuses(t, "Multis within a Multi, with an end", append(b, 2, 0, 0, 0, 0, 0, 0, 0, 0))
	}
}

// TestCounts: a count, or a length, that says more than its bound, or less than nothing.
func TestCounts(t *testing.T) {
	for _, count := range [][]byte{{0xFF, 0xFF, 0xFF, 0xFF}, {0x80, 0, 0, 0}, {0x7F, 0xFF, 0xFF, 0xFF}, {0, 0, 1, 0}} {
		for _, c := range []struct {
			what string
			r    api.Request
			back int // where the count stands, from the end
		}{
			{"Who", api.Request{Kind: api.Delete}, 4},
			{"Path", api.Request{Kind: api.Delete}, 20},
			{"Ops", api.Request{Kind: api.Multi, Ops: []api.Request{{Kind: api.Delete}}}, 13},
			{"Acl", api.Request{Kind: api.SetAcl}, 20},
			{"Data", api.Request{Kind: api.SetData}, 20},
		} {
			b := laid(whole(c.r))
			copy(b[len(b)-c.back:], count)
			refuses(t, "the count of "+c.what, b)
			refuses(t, "the count of "+c.what+", with bytes behind", append(b, make([]byte, 300)...))
		}
	}
}

// TestWriteGivesItsOwn: two answers share nothing, and nothing with what was handed in.
func TestWriteGivesItsOwn(t *testing.T) {
	x := whole(full(api.Multi))
	a, _ := txn.Write(x)
	b, _ := txn.Write(x)
	for i := range a[:cap(a)] {
		a[:cap(a)][i] = 0xEE
	}
	if !bytes.Equal(b, laid(whole(full(api.Multi)))) || !txn.Same(x, whole(full(api.Multi))) {
		t.Errorf("R5: what Write answers is shared")
	}
	x.Req.Ops[0].Data[0]++
	if !bytes.Equal(b, laid(whole(full(api.Multi)))) {
		t.Errorf("R5: what Write answers is its argument's")
	}
}

// TestReadGivesItsOwn: neither the bytes that were read nor another list of the answer is in a list's memory, its spare room neither.
func TestReadGivesItsOwn(t *testing.T) {
	want := whole(full(api.Multi))
	b := laid(want)
	x, _ := txn.Read(b)
	y, _ := txn.Read(b)
	for i := range b {
		b[i] = 0xEE
	}
	if !txn.Same(x, want) || !txn.Same(y, want) {
		t.Errorf("R5: what Read answers is its argument's")
	}
	spoil(t, x, want)
	if !txn.Same(y, want) {
		t.Errorf("R5: two answers of Read share memory")
	}
}

// TestReadOfNoElements: lists and texts of nil and of no elements have the same bytes, and are read as the same.
func TestReadOfNoElements(t *testing.T) {
	for kind := int8(1); kind <= 8; kind++ {
		x, y := whole(plain(kind)), whole(plain(kind))
		y.Req.Data, y.Req.Acl, y.Req.Who = []byte{}, make([]api.Entry, 0, 3), []api.Id{}
		a, e := txn.Write(x)
		b, f := txn.Write(y)
		if e != api.OK || f != api.OK || !bytes.Equal(a, b) {
			t.Errorf("R4: kind %d: % x, %d; % x, %d", kind, a, e, b, f)
		}
		if back, e := txn.Read(a); e != api.OK || !txn.Same(back, x) || !txn.Same(back, y) {
			t.Errorf("R4: kind %d: %v, %d", kind, back, e)
		}
	}
}
