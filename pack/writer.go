package pack

import (
	"bytes"
	"math"
)

// Writer gathers bytes; a plain one is ready.
type Writer struct {
	b []byte
}

// Bool puts one byte, 0 or 1.
func (w *Writer) Bool(v bool) {
	if v {
		w.add(1)
	} else {
		w.add(0)
	}
}

// Int8 puts one byte.
func (w *Writer) Int8(v int8) { w.add(byte(v)) }

// Int32 puts four bytes.
func (w *Writer) Int32(v int32) { w.Uint32(uint32(v)) }

// Uint32 puts four bytes.
func (w *Writer) Uint32(v uint32) {
	w.add(byte(v>>24), byte(v>>16), byte(v>>8), byte(v))
}

// Int64 puts eight bytes.
func (w *Writer) Int64(v int64) { w.put64(uint64(v)) }

// Float puts the eight bytes of its bits.
func (w *Writer) Float(v float64) {
	if v != v { // many bits are a NaN's: without this, one value would have many forms
		w.put64(nanBits)
		return
	}
	w.put64(math.Float64bits(v))
}

// Text puts its length and its bytes.
func (w *Writer) Text(s string) { w.Buffer([]byte(s)) }

// Buffer puts its length and its bytes.
func (w *Writer) Buffer(b []byte) {
	w.Int32(int32(len(b)))
	w.Raw(b)
}

// Raw puts the bytes alone.
func (w *Writer) Raw(b []byte) { w.add(b...) }

// Len tells how many bytes there are.
func (w *Writer) Len() int {
	if w == nil {
		return 0
	}
	return len(w.b)
}

// Bytes gives them, in memory of their own.
func (w *Writer) Bytes() []byte {
	if w == nil {
		return nil
	}
	return bytes.Clone(w.b)
}

func (w *Writer) put64(v uint64) {
	w.Uint32(uint32(v >> 32))
	w.Uint32(uint32(v))
}

// add is the one place that changes a Writer, so a nil one is caught here for all.
func (w *Writer) add(b ...byte) {
	if w != nil {
		w.b = append(w.b, b...)
	}
}
