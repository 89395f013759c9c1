package stream_test

import (
	"bytes"
	"math"
	"reflect"
	"slices"
	"strconv"
	"testing"

	"lagoon/api"
)

// TestPieces: how many chunks there are, each of its size but the last; Final of the last alone; together they are the image.
func TestPieces(t *testing.T) {
	for _, c := range []struct{ image, chunk, pieces, end int }{
		{1, 1, 1, 1}, {2, 1, 2, 1}, {7, 1, 7, 1}, {1, 2, 1, 1}, {1, 4096, 1, 1},
		{63, 64, 1, 63}, {64, 64, 1, 64}, {65, 64, 2, 1}, {127, 64, 2, 63}, {128, 64, 2, 64}, {187, 64, 3, 59}, {640, 64, 10, 64},
		{4095, 4096, 1, 4095}, {4096, 4096, 1, 4096}, {4097, 4096, 2, 1}, {8192, 4096, 2, 4096}, {8193, 4096, 3, 1}, {12288, 4096, 3, 4096},
		{4096, 4095, 2, 1}, {4096, 1, 4096, 1}, {1 << 19, 4096, 128, 4096}, {1 << 16, 1, 1 << 16, 1},
	} {
		for _, l := range [][]api.Txn{nil, logOf(z(1, 2)), logOf(z(1, 2), z(2, 1), z(2, 2))} {
			what := strconv.Itoa(c.image) + " bytes in chunks of " + strconv.Itoa(c.chunk)
			q := question{by(api.BySnap, z(1, 1)), counting(c.image), l, 2, c.chunk}
			got := q.gives(t, what, q.packets()...)
			if len(got) != c.pieces+len(l)+1 {
				t.Fatalf("P16.1: %s: %d packets", what, len(got))
			}
			var whole []byte
			for i, p := range got[:c.pieces] {
				last, size := i == c.pieces-1, c.chunk
				if last {
					size = c.end
				}
				if p.Kind != api.PChunk || len(p.Bytes) != size || p.Final != last {
					t.Fatalf("P16.1: %s: chunk %d: kind %d, %d bytes, Final %v", what, i, p.Kind, len(p.Bytes), p.Final)
				}
				whole = append(whole, p.Bytes...)
			}
			if !bytes.Equal(whole, q.image) {
				t.Fatalf("P16.1: %s: other bytes", what)
			}
		}
	}
}

// TestBytesOfAnyValue: an image need be no tree's.
func TestBytesOfAnyValue(t *testing.T) {
	for _, image := range [][]byte{{0}, make([]byte, 9), bytes.Repeat([]byte{255}, 9), []byte("LGSN")} {
		q := question{by(api.BySnap, z(0, 0)), image, nil, 1, 4}
		q.gives(t, "any bytes", q.packets()...)
	}
}

// TestDiffs: as many as there are transactions, in their order, each with the zxid ahead of it.
func TestDiffs(t *testing.T) {
	all := logOf(z(1, 4), z(1, 5), z(1, math.MaxUint32), z(2, 1), z(7, 9), z(7, 11), z(api.LastEpoch, 1), z(api.LastEpoch, math.MaxUint32))
	for n := range len(all) + 1 {
		for _, from := range []api.Zxid{{}, z(1, 1), z(1, 3)} {
			q := question{by(api.ByDiff, from), nil, all[:n], api.LastEpoch, 1}
			got := q.gives(t, "diffs", q.packets()...)
			ahead := from
			for i, p := range got[:n] {
				if p.Kind != api.PDiff || p.Prev != ahead || p.Txn.Zxid != all[i].Zxid {
					t.Fatalf("P16.1: diff %d: kind %d, %v behind %v", i, p.Kind, p.Txn.Zxid, p.Prev)
				}
				ahead = p.Txn.Zxid
			}
			if end := got[n]; len(got) != n+1 || end.Kind != api.PNewLeader || end.Zxid != ahead || end.Epoch != api.LastEpoch {
				t.Fatalf("P16.1: %d packets, the last %+v", len(got), end)
			}
		}
	}
}

// TestManyTransactions: more than anything in the program holds at once.
func TestManyTransactions(t *testing.T) {
	var l []api.Txn
	for i := range uint32(5000) {
		l = append(l, at(z(1+i/1000, 1+i%1000)))
	}
	for _, q := range []question{
		{by(api.ByDiff, z(0, 0)), nil, l, 5, 1},
		{by(api.ByTruncDiff, z(0, 0)), nil, l, 5, 1},
		{by(api.BySnap, z(0, 0)), counting(5000), l, 5, 7},
	} {
		q.gives(t, name(q), q.packets()...)
	}
}

// named is what the document says that these kinds name, but for the numbers and the place, which are not put in here.
var named = map[int8][]string{
	api.PTrunc:     {"Kind", "Zxid"},
	api.PDiff:      {"Kind", "Prev", "Txn"},
	api.PChunk:     {"Kind", "Final", "Bytes"},
	api.PNewLeader: {"Kind", "Epoch", "Zxid"},
}

// TestAllElseIsZero: what a packet's kind does not name, its connection, its leadership, its place.
func TestAllElseIsZero(t *testing.T) {
	for _, q := range good() {
		for _, p := range q.gives(t, name(q), q.packets()...) {
			names, is := named[p.Kind]
			if !is {
				t.Fatalf("P16.1: %s: a packet of kind %d", name(q), p.Kind)
			}
			v := reflect.ValueOf(p)
			for i := range v.NumField() {
				if f := v.Type().Field(i).Name; !slices.Contains(names, f) && !isEmpty(v.Field(i)) {
					t.Errorf("P16.1: %s: %s of kind %d is %v", name(q), f, p.Kind, v.Field(i))
				}
			}
		}
	}
}

// isEmpty tells whether a value is zero, where a list without elements is (R4).
func isEmpty(v reflect.Value) bool {
	switch v.Kind() {
	case reflect.Slice:
		return v.Len() == 0
	case reflect.Struct:
		for i := range v.NumField() {
			if !isEmpty(v.Field(i)) {
				return false
			}
		}
		return true
	}
	return v.IsZero()
}

// TestOrder: the kinds of each way's packets, from the first to the last.
func TestOrder(t *testing.T) {
	for _, c := range []struct {
		q    question
		want []int8
	}{
		{good()[0], []int8{7}},
		{good()[1], []int8{5, 7}},
		{good()[2], []int8{5, 5, 5, 7}},
		{good()[3], []int8{4, 7}},
		{good()[4], []int8{4, 5, 7}},
		{good()[5], []int8{4, 5, 5, 5, 7}},
		{good()[6], []int8{6, 6, 6, 7}},
		{good()[7], []int8{6, 6, 6, 5, 7}},
		{good()[8], []int8{6, 6, 6, 5, 5, 5, 7}},
	} {
		got, _ := c.q.make()
		var kinds []int8
		for _, p := range got {
			kinds = append(kinds, p.Kind)
		}
		if !slices.Equal(kinds, c.want) {
			t.Errorf("P16.1: %s: kinds %v, not %v", name(c.q), kinds, c.want)
		}
	}
}
