package pack_test

import (
	"bytes"
	"math"
	"testing"

	"lagoon/pack"
)

// written gives the bytes that a plain Writer has behind what put does.
func written(put func(w *pack.Writer)) []byte {
	var w pack.Writer
	put(&w)
	return w.Bytes()
}

func TestWriterFirstExample(t *testing.T) {
	var w pack.Writer
	if w.Len() != 0 || len(w.Bytes()) != 0 {
		t.Errorf("P1.2: a plain Writer has %d bytes: % x", w.Len(), w.Bytes())
	}
	w.Bool(true)
	w.Int8(-2)
	w.Int32(-1)
	w.Uint32(7)
	w.Int64(-2)
	w.Text("ab")
	w.Buffer([]byte{1, 2})
	w.Raw([]byte{9})
	want := []byte{1, 0xFE, 0xFF, 0xFF, 0xFF, 0xFF, 0, 0, 0, 7, 0xFF, 0xFF, 0xFF, 0xFF, 0xFF, 0xFF, 0xFF, 0xFE,
		0, 0, 0, 2, 'a', 'b', 0, 0, 0, 2, 1, 2, 9}
	if !bytes.Equal(w.Bytes(), want) || w.Len() != 31 {
		t.Errorf("P1.2: % x, Len %d", w.Bytes(), w.Len())
	}
}

func TestWriterValues(t *testing.T) {
	for _, c := range []struct {
		name string
		put  func(w *pack.Writer)
		want []byte
	}{
		{"Bool(false)", func(w *pack.Writer) { w.Bool(false) }, []byte{0}},
		{"Bool(true)", func(w *pack.Writer) { w.Bool(true) }, []byte{1}},
		{"Int8(0)", func(w *pack.Writer) { w.Int8(0) }, []byte{0}},
		{"Int8 least", func(w *pack.Writer) { w.Int8(-128) }, []byte{0x80}},
		{"Int8 greatest", func(w *pack.Writer) { w.Int8(127) }, []byte{0x7F}},
		{"Int32(01020304)", func(w *pack.Writer) { w.Int32(0x01020304) }, []byte{1, 2, 3, 4}},
		{"Int32 least", func(w *pack.Writer) { w.Int32(math.MinInt32) }, []byte{0x80, 0, 0, 0}},
		{"Int32 greatest", func(w *pack.Writer) { w.Int32(math.MaxInt32) }, []byte{0x7F, 0xFF, 0xFF, 0xFF}},
		{"Uint32(F1020304)", func(w *pack.Writer) { w.Uint32(0xF1020304) }, []byte{0xF1, 2, 3, 4}},
		{"Uint32 greatest", func(w *pack.Writer) { w.Uint32(math.MaxUint32) }, []byte{0xFF, 0xFF, 0xFF, 0xFF}},
		{"Int64 1 to 8", func(w *pack.Writer) { w.Int64(0x0102030405060708) }, []byte{1, 2, 3, 4, 5, 6, 7, 8}},
		{"Int64 least", func(w *pack.Writer) { w.Int64(math.MinInt64) }, []byte{0x80, 0, 0, 0, 0, 0, 0, 0}},
		{"Int64 greatest", func(w *pack.Writer) { w.Int64(math.MaxInt64) }, []byte{0x7F, 0xFF, 0xFF, 0xFF, 0xFF, 0xFF, 0xFF, 0xFF}},
		{"Text of none", func(w *pack.Writer) { w.Text("") }, []byte{0, 0, 0, 0}},
		{"Text in bytes, not runes", func(w *pack.Writer) { w.Text("é\xff") }, []byte{0, 0, 0, 3, 0xC3, 0xA9, 0xFF}},
		{"Buffer(nil)", func(w *pack.Writer) { w.Buffer(nil) }, []byte{0, 0, 0, 0}},
		{"Buffer of none", func(w *pack.Writer) { w.Buffer([]byte{}) }, []byte{0, 0, 0, 0}},
		{"Raw(nil)", func(w *pack.Writer) { w.Raw(nil) }, nil},
		{"Raw of none", func(w *pack.Writer) { w.Raw([]byte{}) }, nil},
		{"Raw(8, 9)", func(w *pack.Writer) { w.Raw([]byte{8, 9}) }, []byte{8, 9}},
	} {
		if b := written(c.put); !bytes.Equal(b, c.want) {
			t.Errorf("P1.2: %s: % x, not % x", c.name, b, c.want)
		}
	}
}

func TestWriterLengthsOfSeveralBytes(t *testing.T) {
	for _, n := range []int{255, 256, 65535, 65536, 1<<20 + 3} {
		body := bytes.Repeat([]byte{'x'}, n)
		head := []byte{byte(n >> 24), byte(n >> 16), byte(n >> 8), byte(n)}
		want := append(head, body...)
		if b := written(func(w *pack.Writer) { w.Buffer(body) }); !bytes.Equal(b, want) {
			t.Errorf("P1.2: Buffer of %d bytes begins % x", n, b[:4])
		}
		if b := written(func(w *pack.Writer) { w.Text(string(body)) }); !bytes.Equal(b, want) {
			t.Errorf("P1.2: Text of %d bytes begins % x", n, b[:4])
		}
	}
}

func TestWriterFloat(t *testing.T) {
	for _, c := range []struct {
		v    float64
		want []byte
	}{
		{0, []byte{0, 0, 0, 0, 0, 0, 0, 0}},
		{math.Copysign(0, -1), []byte{0x80, 0, 0, 0, 0, 0, 0, 0}},
		{1, []byte{0x3F, 0xF0, 0, 0, 0, 0, 0, 0}},
		{-0.1, []byte{0xBF, 0xB9, 0x99, 0x99, 0x99, 0x99, 0x99, 0x9A}},
		{math.SmallestNonzeroFloat64, []byte{0, 0, 0, 0, 0, 0, 0, 1}},
		{math.MaxFloat64, []byte{0x7F, 0xEF, 0xFF, 0xFF, 0xFF, 0xFF, 0xFF, 0xFF}},
		{math.Inf(1), []byte{0x7F, 0xF0, 0, 0, 0, 0, 0, 0}},
		{math.Inf(-1), []byte{0xFF, 0xF0, 0, 0, 0, 0, 0, 0}},
	} {
		if b := written(func(w *pack.Writer) { w.Float(c.v) }); !bytes.Equal(b, c.want) {
			t.Errorf("P1.2: Float(%v): % x, not % x", c.v, b, c.want)
		}
	}
	one := []byte{0x7F, 0xF8, 0, 0, 0, 0, 0, 0}
	for _, bits := range []uint64{0x7FF8 << 48, 0x7FF8<<48 | 1, 0xFFF8 << 48, 0x7FF0<<48 | 1, 0xFFF0<<48 | 1, math.MaxUint64} {
		v := math.Float64frombits(bits)
		if b := written(func(w *pack.Writer) { w.Float(v) }); !bytes.Equal(b, one) {
			t.Errorf("P1.2: Float of the NaN %016x: % x", bits, b)
		}
	}
}

func TestWriterGoesOnBehindBytes(t *testing.T) {
	var w pack.Writer
	w.Text("ab")
	early := w.Bytes()
	w.Int8(7)
	if !bytes.Equal(early, []byte{0, 0, 0, 2, 'a', 'b'}) || !bytes.Equal(w.Bytes(), []byte{0, 0, 0, 2, 'a', 'b', 7}) || w.Len() != 7 {
		t.Errorf("P1.2: % x, then % x", early, w.Bytes())
	}
}

// TestWriterSharesNothing: neither what it was told nor what it answered, nor the spare room of either.
func TestWriterSharesNothing(t *testing.T) {
	var w pack.Writer
	told := append(make([]byte, 0, 64), 1, 2)
	w.Raw(told)
	told[0] = 9
	first := w.Bytes()
	first[0] = 8
	w.Int8(3)
	second := w.Bytes()
	grown := append(first, 77, 77)
	w.Int8(4)
	if !bytes.Equal(w.Bytes(), []byte{1, 2, 3, 4}) || !bytes.Equal(second, []byte{1, 2, 3}) || !bytes.Equal(grown, []byte{8, 2, 77, 77}) {
		t.Errorf("R5: % x; % x; % x", w.Bytes(), second, grown)
	}
	if !bytes.Equal(told[:64], append([]byte{9, 2}, make([]byte, 62)...)) {
		t.Errorf("R5: the argument was changed: % x", told[:64])
	}
}

func TestWritersAreApart(t *testing.T) {
	var a, b pack.Writer
	a.Int8(1)
	b.Int8(2)
	a.Int8(3)
	if !bytes.Equal(a.Bytes(), []byte{1, 3}) || !bytes.Equal(b.Bytes(), []byte{2}) {
		t.Errorf("R6: % x; % x", a.Bytes(), b.Bytes())
	}
}

func TestNilWriter(t *testing.T) {
	var w *pack.Writer
	w.Bool(true)
	w.Int8(1)
	w.Int32(1)
	w.Uint32(1)
	w.Int64(1)
	w.Float(1)
	w.Float(math.NaN())
	w.Text("a")
	w.Buffer([]byte{1})
	w.Raw([]byte{1})
	if w.Len() != 0 || len(w.Bytes()) != 0 {
		t.Errorf("P1.2: a nil Writer has %d bytes: % x", w.Len(), w.Bytes())
	}
}
