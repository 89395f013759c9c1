package pack

import (
	"bytes"
	"math"

	"lagoon/api"
)

// Reader takes bytes apart, up to the first fault. New makes it.
type Reader struct {
	made  bool   // New made it: a plain one reads nothing
	rest  []byte // what is not read yet
	fault api.Errno
}

// New gives a reader of bytes. It reads a copy: what is cut out of it later is handed out as it is.
func New(b []byte) *Reader {
	return &Reader{made: true, rest: bytes.Clone(b)}
}

// Bool reads one byte, 0 or 1.
func (r *Reader) Bool() bool {
	b, ok := r.peek(1)
	if !ok {
		return false
	}
	if b[0] > 1 {
		r.fault = api.ErrByte
		return false
	}
	r.skip(1)
	return b[0] == 1
}

// Int8 reads one byte.
func (r *Reader) Int8() int8 { return int8(r.number(1)) }

// Int32 reads four bytes.
func (r *Reader) Int32() int32 { return int32(r.number(4)) }

// Uint32 reads four bytes.
func (r *Reader) Uint32() uint32 { return uint32(r.number(4)) }

// Int64 reads eight bytes.
func (r *Reader) Int64() int64 { return int64(r.number(8)) }

// Float reads the eight bytes of a float's bits.
func (r *Reader) Float() float64 {
	b, ok := r.peek(8)
	if !ok {
		return 0
	}
	bits := join(b)
	v := math.Float64frombits(bits)
	if v != v && bits != nanBits { // a NaN, but not in its one form
		r.fault = api.ErrByte
		return 0
	}
	r.skip(8)
	return v
}

// Text reads a text of at most so many bytes.
func (r *Reader) Text(most int) string { return string(r.sized(most)) }

// Buffer reads a buffer of at most so many bytes.
func (r *Reader) Buffer(most int) []byte { return r.sized(most) }

// Raw reads so many bytes.
func (r *Reader) Raw(n int) []byte { return r.take(n) }

// Left tells how many bytes are not read yet.
func (r *Reader) Left() int {
	if r == nil {
		return 0
	}
	return len(r.rest)
}

// Fail puts a fault, if there is none yet.
func (r *Reader) Fail(e api.Errno) {
	if r.reads() {
		r.fault = e
	}
}

// Err tells the first fault.
func (r *Reader) Err() api.Errno {
	if r == nil || !r.made {
		return api.ErrArg
	}
	return r.fault
}

// End tells the first fault, or that bytes are left.
func (r *Reader) End() api.Errno {
	if e := r.Err(); e != api.OK {
		return e
	}
	if len(r.rest) > 0 {
		return api.ErrRest
	}
	return api.OK
}

// reads tells whether there may be anything to read: New made it, and there is no fault.
func (r *Reader) reads() bool { return r.Err() == api.OK }

// peek cuts out the next n bytes, and stays ahead of them: a value that turns out to be none is not gone over. The bytes are New's copy, and each is handed out once, so a cut is its caller's own; it has no spare room (three indices), or an append to it would write into what is unread.
func (r *Reader) peek(n int) ([]byte, bool) {
	if !r.reads() {
		return nil, false
	}
	if n < 0 {
		r.fault = api.ErrWide
		return nil, false
	}
	if n > len(r.rest) {
		r.fault = api.ErrShort
		return nil, false
	}
	return r.rest[:n:n], true
}

// skip goes behind n bytes that peek has given.
func (r *Reader) skip(n int) { r.rest = r.rest[n:] }

// take cuts out the next n bytes, and goes behind them; none, where there is a fault.
func (r *Reader) take(n int) []byte {
	b, ok := r.peek(n)
	if ok {
		r.skip(n)
	}
	return b
}

// number reads n bytes as one; 0, where there is a fault.
func (r *Reader) number(n int) uint64 { return join(r.take(n)) }

// size looks at a length, or at a count, and stays ahead of it. What it counts has a byte each at least, so the bytes behind it bound it too.
func (r *Reader) size(most int) (int, bool) {
	b, ok := r.peek(sizeBytes)
	if !ok {
		return 0, false
	}
	n := int(int32(join(b)))
	switch {
	case n < 0 || n > most:
		r.fault = api.ErrWide
	case n > len(r.rest)-sizeBytes:
		r.fault = api.ErrShort
	default:
		return n, true
	}
	return 0, false
}

// sized cuts out the bytes of a text or a buffer, and goes behind them.
func (r *Reader) sized(most int) []byte {
	n, ok := r.size(most)
	if !ok {
		return nil
	}
	r.skip(sizeBytes)
	return r.take(n)
}

// join makes one number of bytes, the highest first.
func join(b []byte) uint64 {
	n := uint64(0)
	for _, x := range b {
		n = n<<8 | uint64(x)
	}
	return n
}
