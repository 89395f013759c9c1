package txn_test

import (
	"math"
	"math/rand/v2"
	"slices"
	"testing"

	"lagoon/api"
	"lagoon/txn"
)

func z(epoch, n uint32) api.Zxid { return api.Zxid{Epoch: epoch, N: n} }

// edges are numbers at which something might turn: signs, halves, ends.
var edges = []uint32{0, 1, 2, 5, 1<<16 - 1, 1 << 16, 1<<31 - 2, 1<<31 - 1, 1 << 31, 1<<31 + 1, 1<<32 - 2, 1<<32 - 1}

// anyZxids are all zxids out of edges, rising.
func anyZxids() []api.Zxid {
	var out []api.Zxid
	for _, epoch := range edges {
		for _, n := range edges {
			out = append(out, z(epoch, n))
		}
	}
	return out
}

func TestCompare(t *testing.T) {
	all := anyZxids()
	for i, a := range all {
		for j, b := range all {
			want := 0
			if i < j {
				want = -1
			} else if i > j {
				want = 1
			}
			if got := txn.Compare(a, b); got != want {
				t.Errorf("P4.1: Compare(%v, %v): %d, not %d", a, b, got, want)
			}
		}
	}
	if txn.Compare(z(1, 9), z(2, 1)) != -1 || txn.Compare(z(2, 1), z(1, 9)) != 1 {
		t.Errorf("P4.1: the epoch goes ahead of the counter")
	}
}

func TestPack(t *testing.T) {
	for _, c := range []struct {
		z    api.Zxid
		want int64
		e    api.Errno
	}{
		{z(0, 0), 0, api.OK},
		{z(0, 1), 1, api.OK}, // no zxid that may be, but a number all the same
		{z(1, 0), 1 << 32, api.OK},
		{z(1, 2), 4294967298, api.OK},
		{z(0, 1<<32-1), 1<<32 - 1, api.OK},
		{z(3, 1<<31), 3<<32 + 1<<31, api.OK},
		{z(1<<31-1, 0), math.MaxInt64 - (1<<32 - 1), api.OK},
		{z(1<<31-1, 1<<32-1), math.MaxInt64, api.OK},
		{z(1<<31, 0), 0, api.ErrArg},
		{z(1<<31, 7), 0, api.ErrArg},
		{z(1<<32-1, 1<<32-1), 0, api.ErrArg},
	} {
		if n, e := txn.Pack(c.z); n != c.want || e != c.e {
			t.Errorf("P4.2: Pack(%v): %d, %d, not %d, %d", c.z, n, e, c.want, c.e)
		}
	}
}

func TestUnpack(t *testing.T) {
	for _, c := range []struct {
		n    int64
		want api.Zxid
		e    api.Errno
	}{
		{0, z(0, 0), api.OK},
		{1, z(0, 1), api.OK},
		{1<<32 - 1, z(0, 1<<32-1), api.OK},
		{1 << 32, z(1, 0), api.OK},
		{4294967298, z(1, 2), api.OK},
		{math.MaxInt64, z(1<<31-1, 1<<32-1), api.OK},
		{-1, z(0, 0), api.ErrArg},
		{-1 << 32, z(0, 0), api.ErrArg},
		{math.MinInt64, z(0, 0), api.ErrArg},
		{math.MinInt64 + 1, z(0, 0), api.ErrArg},
	} {
		if x, e := txn.Unpack(c.n); x != c.want || e != c.e {
			t.Errorf("P4.2: Unpack(%d): %v, %d, not %v, %d", c.n, x, e, c.want, c.e)
		}
	}
}

// TestPackKeepsTheOrder: of all zxids of which a number is told, and back from it.
func TestPackKeepsTheOrder(t *testing.T) {
	before, told := int64(-1), 0
	for _, x := range anyZxids() {
		n, e := txn.Pack(x)
		if x.Epoch > 1<<31-1 {
			if n != 0 || e != api.ErrArg {
				t.Errorf("P4.2: Pack(%v): %d, %d", x, n, e)
			}
			continue
		}
		told++
		if e != api.OK || n <= before {
			t.Errorf("P4.2: Pack(%v): %d, %d, behind %d", x, n, e, before)
		}
		if y, e := txn.Unpack(n); y != x || e != api.OK {
			t.Errorf("P4.2: Unpack(%d): %v, %d, not %v", n, y, e, x)
		}
		before = n
	}
	if told != 8*len(edges) {
		t.Errorf("P4.2: %d numbers were told", told)
	}
	r := rand.New(rand.NewPCG(4, 1))
	for range 3000 {
		n := int64(r.Uint64() >> (1 + r.IntN(63)))
		x, e := txn.Unpack(n)
		m, f := txn.Pack(x)
		if e != api.OK || f != api.OK || m != n {
			t.Fatalf("P4.2: Unpack(%d): %v, %d; Pack of it: %d, %d", n, x, e, m, f)
		}
	}
}

func TestNext(t *testing.T) {
	for _, c := range []struct {
		z    api.Zxid
		last uint32
		want api.Zxid
		e    api.Errno
	}{
		{z(3, 0), 5, z(3, 1), api.OK},
		{z(3, 3), 5, z(3, 4), api.OK},
		{z(3, 4), 5, z(3, 5), api.OK},
		{z(3, 5), 5, z(0, 0), api.ErrSpent},
		{z(3, 6), 5, z(0, 0), api.ErrSpent},
		{z(3, 0), 1, z(3, 1), api.OK},
		{z(3, 0), 0, z(0, 0), api.ErrSpent},
		{z(3, 1), 0, z(0, 0), api.ErrSpent},
		{z(1, 1<<31-1), 1 << 31, z(1, 1<<31), api.OK},
		{z(1, 1<<31), 1, z(0, 0), api.ErrSpent},
		{z(1, 1<<32-2), 1<<32 - 1, z(1, 1<<32-1), api.OK},
		{z(1, 1<<32-1), 1<<32 - 1, z(0, 0), api.ErrSpent},
		{z(1<<31-1, 1), 5, z(1<<31-1, 2), api.OK},
		{z(1<<31, 1), 5, z(0, 0), api.ErrArg},
		{z(1<<32-1, 1), 5, z(0, 0), api.ErrArg},
		{z(0, 0), 5, z(0, 0), api.ErrArg},
		{z(0, 1), 5, z(0, 0), api.ErrArg},
		{z(0, 5), 5, z(0, 0), api.ErrArg}, // spent too: the first error that is named holds (R2)
		{z(1<<31, 5), 5, z(0, 0), api.ErrArg},
		{z(0, 0), 0, z(0, 0), api.ErrArg},
	} {
		if x, e := txn.Next(c.z, c.last); x != c.want || e != c.e {
			t.Errorf("P4.3: Next(%v, %d): %v, %d, not %v, %d", c.z, c.last, x, e, c.want, c.e)
		}
	}
}

// zxids gives transactions of these zxids, which are nothing else.
func zxids(l ...api.Zxid) []api.Txn {
	var out []api.Txn
	for _, x := range l {
		out = append(out, api.Txn{Zxid: x})
	}
	return out
}

func TestRises(t *testing.T) {
	for _, c := range []struct {
		after api.Zxid
		l     []api.Txn
		want  bool
	}{
		{z(0, 0), nil, true},
		{z(9, 9), nil, true},
		{z(1<<32-1, 1<<32-1), []api.Txn{}, true},
		{z(1, 1), zxids(z(1, 2), z(2, 1)), true},
		{z(1, 2), zxids(z(1, 2)), false},
		{z(1, 2), zxids(z(1, 1)), false},
		{z(1, 2), zxids(z(1, 9)), true},
		{z(1, 2), zxids(z(2, 1)), true},
		{z(2, 1), zxids(z(1, 9)), false},
		{z(0, 0), zxids(z(0, 0)), false},
		{z(0, 0), zxids(z(0, 1)), true},
		{z(0, 0), zxids(z(1, 0)), true},
		{z(0, 0), zxids(z(1, 1), z(1, 2), z(1, 3), z(2, 1)), true},
		{z(0, 0), zxids(z(1, 1), z(1, 1)), false},
		{z(0, 0), zxids(z(1, 1), z(1, 3), z(1, 2)), false},
		{z(0, 0), zxids(z(1, 5), z(1, 3), z(1, 4)), false}, // above after and above the one ahead of it, but for the second
		{z(0, 0), zxids(z(2, 1), z(1, 2)), false},
		{z(0, 0), zxids(z(1, 1), z(2, 1), z(3, 1), z(3, 1)), false},
		{z(1<<31-1, 1), zxids(z(1<<31, 0), z(1<<32-1, 1<<32-1)), true}, // what else they are does not matter
	} {
		kept := slices.Clone(c.l)
		if got := txn.Rises(c.after, c.l); got != c.want {
			t.Errorf("P4.7: Rises(%v, %v): %v", c.after, c.l, got)
		}
		for i := range kept {
			if c.l[i].Zxid != kept[i].Zxid {
				t.Errorf("R5: Rises changed its list")
			}
		}
	}
}
