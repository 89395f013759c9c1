package choose_test

import (
	"math"
	"math/big"
	"testing"

	"lagoon/api"
	"lagoon/choose"
	"lagoon/txn"
)

func z(epoch, n uint32) api.Zxid { return api.Zxid{Epoch: epoch, N: n} }

// leastSize and mostSize bound what sized can make.
const leastSize, mostSize = 47, 47 + api.MaxData

// sized is a transaction that has just so many bytes: 47 of them are laid out whatever its data is.
func sized(t *testing.T, at api.Zxid, bytes int) api.Txn {
	t.Helper()
	x := api.Txn{Zxid: at, Req: api.Request{Kind: api.SetData, Path: "/", Data: make([]byte, bytes-leastSize)}}
	if b, e := txn.Write(x); e != api.OK || len(b) != bytes {
		t.Fatalf("a transaction of %d bytes: %d, %d", bytes, len(b), e)
	}
	return x
}

// refused is a transaction that layer 4 refuses, though its data would count.
func refused(t *testing.T, at api.Zxid) api.Txn {
	t.Helper()
	x := api.Txn{Zxid: at, Req: api.Request{Kind: api.GetData, Path: "/", Data: make([]byte, 50)}}
	if _, e := txn.Write(x); e != api.ErrTxn {
		t.Fatalf("a transaction that may not be: %d", e)
	}
	return x
}

// logOf are transactions of 50 bytes with these zxids.
func logOf(t *testing.T, l ...api.Zxid) []api.Txn {
	t.Helper()
	var out []api.Txn
	for _, at := range l {
		out = append(out, sized(t, at, 50))
	}
	return out
}

// logOfAny are transactions with these zxids, which layer 4 may refuse.
func logOfAny(l ...api.Zxid) []api.Txn {
	var out []api.Txn
	for _, at := range l {
		out = append(out, api.Txn{Zxid: at})
	}
	return out
}

// rising are so many zxids above one, over several epochs, with gaps between them.
func rising(above api.Zxid, n int) []api.Zxid {
	var out []api.Zxid
	for i := range uint32(n) {
		out = append(out, z(above.Epoch+1+i/3, 2+2*(i%3)))
	}
	return out
}

// snaps are zxids of snapshots, zero among them, and such as no transaction has.
func snaps() []api.Zxid {
	return []api.Zxid{z(0, 0), z(0, 7), z(1, 0), z(1, 1), z(2, 5), z(7, math.MaxUint32)}
}

// around are zxids at, right below and right above each of these, ahead of and behind their epochs, and the ends.
func around(l ...api.Zxid) []api.Zxid {
	out := []api.Zxid{{}, z(0, 1), z(0, math.MaxUint32), z(math.MaxUint32, 0), z(math.MaxUint32, math.MaxUint32)}
	for _, x := range l {
		out = append(out, x, z(x.Epoch, x.N-1), z(x.Epoch, x.N+1), z(x.Epoch-1, x.N), z(x.Epoch+1, x.N), z(x.Epoch, 0), z(x.Epoch+1, 0), z(x.Epoch, math.MaxUint32))
	}
	return out
}

// below orders zxids by the document's words: by epoch, then by counter.
func below(a, b api.Zxid) bool {
	return a.Epoch < b.Epoch || a.Epoch == b.Epoch && a.N < b.N
}

// minusZero is the nought below the other one.
func minusZero() float64 { return math.Copysign(0, -1) }

// factors are of every kind: numbers, noughts, infinities, and what is not a number.
func factors() []float64 {
	inf := math.Inf(1)
	return []float64{
		math.NaN(), 0, minusZero(), -1, -0.5, -math.SmallestNonzeroFloat64, -math.MaxFloat64, inf, -inf,
		math.SmallestNonzeroFloat64, 1e-300, 0.25, 0.5, 1, 1.5, 2, 1e300, math.MaxFloat64,
	}
}

// isUnder is what the document says of Under, reckoned exactly and rounded to 53 bits.
func isUnder(bytes, image int, factor float64) bool {
	if math.IsNaN(factor) || math.IsInf(factor, 0) && image == 0 {
		return false
	}
	if math.IsInf(factor, 0) {
		return (factor > 0) == (image > 0)
	}
	float := func() *big.Float { return new(big.Float).SetPrec(53) }
	product := float().Mul(big.NewFloat(factor), float().SetInt64(int64(image)))
	return float().SetInt64(int64(bytes)).Cmp(product) <= 0
}

// size is what the document says of Size.
func size(l []api.Txn) int {
	n := 0
	for _, x := range l {
		if b, e := txn.Write(x); e == api.OK {
			n += len(b)
		}
	}
	return n
}

// chosen is what the document says of Way where nothing is refused: the log is gone through one by one.
func chosen(peer, snap api.Zxid, log []api.Txn, cached, image int, factor float64) api.Choice {
	if below(peer, snap) {
		return api.Choice{Way: api.BySnap}
	}
	from, n := snap, 0
	for i, x := range log {
		if !below(peer, x.Zxid) {
			from, n = x.Zxid, i+1
		}
	}
	rest := log[n:]
	c := api.Choice{From: from, Way: api.ByTruncDiff, Cached: n >= len(log)-cached}
	if !c.Cached && !isUnder(size(rest), image, factor) {
		return api.Choice{Way: api.BySnap}
	}
	if len(rest) == 0 {
		c.Way = api.ByTrunc
	}
	if from == peer {
		c.Way = api.ByDiff
	}
	return c
}

// chooses looks at one answer.
func chooses(t *testing.T, what string, want api.Choice, peer, snap api.Zxid, log []api.Txn, cached, image int, factor float64) {
	t.Helper()
	if c, e := choose.Way(peer, snap, log, cached, image, factor); c != want || e != api.OK {
		t.Errorf("%s: Way(%v, %v, %d transactions, %d, %d, %v): %v, %d, not %v", what, peer, snap, len(log), cached, image, factor, c, e, want)
	}
}

// refuses looks that there is no answer.
func refuses(t *testing.T, what string, peer, snap api.Zxid, log []api.Txn, cached, image int, factor float64) {
	t.Helper()
	if c, e := choose.Way(peer, snap, log, cached, image, factor); c != (api.Choice{}) || e != api.ErrArg {
		t.Errorf("%s: Way(%v, %v, %d transactions, %d, %d, %v): %v, %d, not refused", what, peer, snap, len(log), cached, image, factor, c, e)
	}
}

// bySnap is the answer where a copy is sent.
func bySnap() api.Choice { return api.Choice{Way: api.BySnap} }

// sent is the answer where transactions are sent.
func sent(way int8, from api.Zxid, cached bool) api.Choice {
	return api.Choice{Way: way, From: from, Cached: cached}
}
