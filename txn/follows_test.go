package txn_test

import (
	"bytes"
	"math/rand/v2"
	"slices"
	"testing"

	"lagoon/api"
	"lagoon/txn"
)

// TestAnyTxn: random transactions, of which some may not be, held against the document's words.
func TestAnyTxn(t *testing.T) {
	g := rand.New(rand.NewPCG(4, 2))
	may, not := 0, 0
	var perKind [9]int
	for range 20000 {
		x := anyTxn(g)
		want := api.ErrTxn
		if mayBeTxn(x) {
			want = api.OK
		}
		request := api.ErrTxn
		if mayBe(x.Req, false) {
			request = api.OK
		}
		b, e := txn.Write(x)
		if e != want || txn.Check(x) != want || txn.CheckRequest(x.Req) != request {
			t.Fatalf("P4.4: %v: Write %d, Check %d, CheckRequest %d, not %d, %d", x, e, txn.Check(x), txn.CheckRequest(x.Req), want, request)
		}
		if want != api.OK {
			not++
			if len(b) != 0 {
				t.Fatalf("P4.5: %v: bytes of what may not be: % x", x, b)
			}
			continue
		}
		may++
		perKind[x.Req.Kind]++
		if !bytes.Equal(b, laid(x)) || len(b) > 3486 {
			t.Fatalf("P4.5: %v: % x, not % x", x, b, laid(x))
		}
		back, e := txn.Read(b)
		if e != api.OK || !txn.Same(x, back) {
			t.Fatalf("P4.5: Read(% x): %v, %d", b, back, e)
		}
		n := g.IntN(len(b))
		refuses(t, "a beginning", b[:n])
		refuses(t, "a byte more", append(b, byte(g.IntN(256))))
	}
	if may < 5000 || not < 2000 || slices.Min(perKind[1:]) < 300 {
		t.Errorf("the test's transactions are too much alike: %d may be, %d not, %v", may, not, perKind)
	}
}

// taken tells whether bytes are read, and looks that then they are just those that are written.
func taken(t *testing.T, b []byte) bool {
	t.Helper()
	x, e := txn.Read(b)
	if e != api.OK {
		if e != api.ErrTxn || !txn.Same(x, api.Txn{}) {
			t.Fatalf("P4.5: Read(% x): %v, %d", b, x, e)
		}
		return false
	}
	again, e := txn.Write(x)
	if e != api.OK || !bytes.Equal(again, b) || !mayBeTxn(x) || !bytes.Equal(laid(x), b) {
		t.Fatalf("P4.5: Read(% x): %v; written again: % x, %d", b, x, again, e)
	}
	return true
}

// TestEveryTurnedByte: each byte of each row turned to every other value.
func TestEveryTurnedByte(t *testing.T) {
	reads := 0
	for _, c := range rows {
		b := slices.Concat(head, c.b)
		for at := range b {
			for by := 1; by < 256; by++ {
				turned := bytes.Clone(b)
				turned[at] ^= byte(by)
				if taken(t, turned) {
					reads++
				}
			}
		}
	}
	if reads == 0 {
		t.Errorf("P4.5: no turned byte makes another transaction")
	}
}

// TestAnyBytes: random ones, and random ones in the middle of good ones.
func TestAnyBytes(t *testing.T) {
	g := rand.New(rand.NewPCG(4, 3))
	small := func() byte { return []byte{0, 0, 0, 0, 1, 2, 3, 4, 5, 6, 7, 8, 9, 255}[g.IntN(14)] }
	reads := 0
	for range 60000 {
		b := make([]byte, 21+g.IntN(40))
		for i := range b {
			b[i] = small()
		}
		if g.IntN(2) == 0 {
			copy(b, head)
		}
		if taken(t, b) {
			reads++
		}
		x := anyTxn(g)
		b = laid(x)
		for range 1 + g.IntN(3) {
			b[g.IntN(len(b))] = small()
		}
		if taken(t, b) {
			reads++
		}
	}
	if reads < 1000 {
		t.Errorf("only %d of them were read", reads)
	}
}

// TestAnyClone: clones of anything are the same, and another one is not.
func TestAnyClone(t *testing.T) {
	g := rand.New(rand.NewPCG(4, 4))
	before := api.Txn{}
	for range 3000 {
		x := anyTxn(g)
		c := txn.Clone(x)
		if !txn.Same(c, x) || !bytes.Equal(laid(c), laid(x)) {
			t.Fatalf("P4.6: %v: %v", x, c)
		}
		if mayBeTxn(x) && mayBeTxn(before) && txn.Same(x, before) != bytes.Equal(laid(x), laid(before)) {
			t.Fatalf("P4.6: Same(%v, %v)", x, before)
		}
		before = x
	}
}
