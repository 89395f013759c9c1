package pack_test

import (
	"bytes"
	"math"
	"math/rand/v2"
	"slices"
	"testing"

	"lagoon/api"
	"lagoon/pack"
)

// value: something that a Writer is told, as it is put and as it is asked for again.
type value struct {
	put   func(w *pack.Writer)
	again func(r *pack.Reader) bool
}

// anyFloat leans to the floats that are out of the ordinary.
func anyFloat(g *rand.Rand) float64 {
	odd := []float64{0, math.Copysign(0, -1), math.Inf(1), math.Inf(-1), math.NaN(), math.SmallestNonzeroFloat64}
	if g.IntN(2) == 0 {
		return odd[g.IntN(len(odd))]
	}
	return math.Float64frombits(g.Uint64())
}

func sameFloat(a, b float64) bool {
	return math.Float64bits(a) == math.Float64bits(b) || a != a && b != b
}

func anyBytes(g *rand.Rand) []byte {
	b := make([]byte, g.IntN(9))
	for i := range b {
		b[i] = byte(g.Uint32())
	}
	return b
}

func anyNumber(g *rand.Rand) value {
	switch n := g.Uint64(); g.IntN(6) {
	case 0:
		v := n%2 == 1
		return value{func(w *pack.Writer) { w.Bool(v) }, func(r *pack.Reader) bool { return r.Bool() == v }}
	case 1:
		v := int8(n)
		return value{func(w *pack.Writer) { w.Int8(v) }, func(r *pack.Reader) bool { return r.Int8() == v }}
	case 2:
		v := int32(n)
		return value{func(w *pack.Writer) { w.Int32(v) }, func(r *pack.Reader) bool { return r.Int32() == v }}
	case 3:
		v := uint32(n)
		return value{func(w *pack.Writer) { w.Uint32(v) }, func(r *pack.Reader) bool { return r.Uint32() == v }}
	case 4:
		v := int64(n)
		return value{func(w *pack.Writer) { w.Int64(v) }, func(r *pack.Reader) bool { return r.Int64() == v }}
	default:
		v := anyFloat(g)
		return value{func(w *pack.Writer) { w.Float(v) }, func(r *pack.Reader) bool { return sameFloat(r.Float(), v) }}
	}
}

func anyValue(g *rand.Rand) value {
	v := anyBytes(g)
	switch g.IntN(6) {
	case 0:
		return value{func(w *pack.Writer) { w.Text(string(v)) }, func(r *pack.Reader) bool { return r.Text(len(v)) == string(v) }}
	case 1:
		return value{func(w *pack.Writer) { w.Buffer(v) }, func(r *pack.Reader) bool { return bytes.Equal(r.Buffer(len(v)), v) }}
	case 2:
		return value{func(w *pack.Writer) { w.Raw(v) }, func(r *pack.Reader) bool { return bytes.Equal(r.Raw(len(v)), v) }}
	case 3:
		l := []string{string(v), "", string(anyBytes(g))}[:g.IntN(4)]
		return value{func(w *pack.Writer) { pack.PutList(w, l, (*pack.Writer).Text) }, func(r *pack.Reader) bool {
			return slices.Equal(pack.GetList(r, len(l), func(r *pack.Reader) string { return r.Text(9) }), l)
		}}
	default:
		return anyNumber(g)
	}
}

// TestThereAndBack: what was written is read again, and then End is OK.
func TestThereAndBack(t *testing.T) {
	g := rand.New(rand.NewPCG(1, 1))
	for range 3000 {
		var w pack.Writer
		values := make([]value, g.IntN(12))
		for i := range values {
			values[i] = anyValue(g)
			values[i].put(&w)
		}
		b := w.Bytes()
		r := pack.New(b)
		for i, v := range values {
			if !v.again(r) {
				t.Fatalf("what was written is read again: value %d of % x, fault %d", i, b, r.Err())
			}
		}
		if r.End() != api.OK {
			t.Fatalf("what was written is read again: End %d of % x", r.End(), b)
		}
	}
}

// texts calls f with every text of at most so many bytes out of some.
func texts(out []byte, most int, f func(b []byte)) {
	var grow func(b []byte)
	grow = func(b []byte) {
		f(b)
		if len(b) == most {
			return
		}
		for _, x := range out {
			grow(append(b, x))
		}
	}
	grow(nil)
}

// forms: of each kind, how it is read and laid again; the lists have elements of a byte, and of a text.
func forms() []func(r *pack.Reader, w *pack.Writer) {
	return []func(r *pack.Reader, w *pack.Writer){
		func(r *pack.Reader, w *pack.Writer) { w.Bool(r.Bool()) },
		func(r *pack.Reader, w *pack.Writer) { w.Int8(r.Int8()) },
		func(r *pack.Reader, w *pack.Writer) { w.Int32(r.Int32()) },
		func(r *pack.Reader, w *pack.Writer) { w.Uint32(r.Uint32()) },
		func(r *pack.Reader, w *pack.Writer) { w.Int64(r.Int64()) },
		func(r *pack.Reader, w *pack.Writer) { w.Float(r.Float()) },
		func(r *pack.Reader, w *pack.Writer) { w.Text(r.Text(3)) },
		func(r *pack.Reader, w *pack.Writer) { w.Buffer(r.Buffer(3)) },
		func(r *pack.Reader, w *pack.Writer) { w.Raw(r.Raw(3)) },
		func(r *pack.Reader, w *pack.Writer) {
			pack.PutList(w, pack.GetList(r, 3, (*pack.Reader).Bool), (*pack.Writer).Bool)
		},
		func(r *pack.Reader, w *pack.Writer) {
			pack.PutList(w, pack.GetList(r, 3, func(r *pack.Reader) string { return r.Text(3) }), (*pack.Writer).Text)
		},
	}
}

// TestOneForm: bytes that are read without a fault are just those that a Writer lays for the answers.
func TestOneForm(t *testing.T) {
	check := func(b []byte) {
		for i, form := range forms() {
			r := pack.New(b)
			var w pack.Writer
			form(r, &w)
			read := len(b) - r.Left()
			if r.Err() == api.OK && !bytes.Equal(w.Bytes(), b[:read]) {
				t.Fatalf("one form: kind %d of % x: % x", i, b, w.Bytes())
			}
		}
	}
	texts([]byte{0, 1, 2, 0x80, 0xFF}, 7, check)
	for _, low := range []byte{0, 1, 0x80, 0xFF} {
		for high := range 1 << 16 {
			check([]byte{byte(high >> 8), byte(high), 0, 0, 0, 0, 0, low})
		}
	}
}

// TestLeftNeverGrows: nor does it fall in a call that brings a fault, or behind one.
func TestLeftNeverGrows(t *testing.T) {
	g := rand.New(rand.NewPCG(2, 2))
	all := kinds()
	for range 20000 {
		b := append(anyBytes(g), bytes.Repeat([]byte{0}, g.IntN(4))...)
		b = append(b, 0, 0, 0, byte(g.IntN(4)), 1, 0, 2)
		r := pack.New(b)
		for range 8 {
			k := all[g.IntN(len(all))]
			before, left := r.Err(), r.Left()
			k.zero(r)
			if r.Left() > left {
				t.Fatalf("Left never grows: %s of % x: %d, then %d", k.name, b, left, r.Left())
			}
			if before != api.OK && (r.Err() != before || r.Left() != left) {
				t.Fatalf("nothing changes behind a fault: %s of % x", k.name, b)
			}
			if before == api.OK && r.Err() != api.OK && r.Left() != left {
				t.Fatalf("the reader stays where a fault is: %s of % x", k.name, b)
			}
		}
	}
}
