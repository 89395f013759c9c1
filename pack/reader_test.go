package pack_test

import (
	"bytes"
	"math"
	"testing"

	"lagoon/api"
	"lagoon/pack"
)

// kind: one of the calls that read, and whether what it answered is zero.
type kind struct {
	name string
	zero func(r *pack.Reader) bool
}

// kinds: all of them, with bounds of 8.
func kinds() []kind {
	return []kind{
		{"Bool", func(r *pack.Reader) bool { return !r.Bool() }},
		{"Int8", func(r *pack.Reader) bool { return r.Int8() == 0 }},
		{"Int32", func(r *pack.Reader) bool { return r.Int32() == 0 }},
		{"Uint32", func(r *pack.Reader) bool { return r.Uint32() == 0 }},
		{"Int64", func(r *pack.Reader) bool { return r.Int64() == 0 }},
		{"Float", func(r *pack.Reader) bool { return math.Float64bits(r.Float()) == 0 }},
		{"Text", func(r *pack.Reader) bool { return r.Text(8) == "" }},
		{"Buffer", func(r *pack.Reader) bool { return len(r.Buffer(8)) == 0 }},
		{"Raw", func(r *pack.Reader) bool { return len(r.Raw(1)) == 0 }},
		{"GetList", func(r *pack.Reader) bool { return len(pack.GetList(r, 8, (*pack.Reader).Int8)) == 0 }},
	}
}

// stands tells what is wrong with a reader's fault or place.
func stands(t *testing.T, what string, r *pack.Reader, e api.Errno, left int) {
	t.Helper()
	if r.Err() != e || r.Left() != left {
		t.Errorf("%s: fault %d, Left %d; not %d, %d", what, r.Err(), r.Left(), e, left)
	}
}

func TestReaderFirstExample(t *testing.T) {
	r := pack.New([]byte{1, 0xFE, 0xFF, 0xFF, 0xFF, 0xFF, 0, 0, 0, 7, 0xFF, 0xFF, 0xFF, 0xFF, 0xFF, 0xFF, 0xFF, 0xFE,
		0, 0, 0, 2, 'a', 'b', 0, 0, 0, 2, 1, 2, 9})
	stands(t, "P1.3: New", r, api.OK, 31)
	if v := r.Bool(); !v {
		t.Errorf("P1.3: Bool: %v", v)
	}
	stands(t, "P1.3: Bool", r, api.OK, 30)
	if v := r.Int8(); v != -2 {
		t.Errorf("P1.3: Int8: %d", v)
	}
	stands(t, "P1.3: Int8", r, api.OK, 29)
	if v := r.Int32(); v != -1 {
		t.Errorf("P1.3: Int32: %d", v)
	}
	stands(t, "P1.3: Int32", r, api.OK, 25)
	if v := r.Uint32(); v != 7 {
		t.Errorf("P1.3: Uint32: %d", v)
	}
	stands(t, "P1.3: Uint32", r, api.OK, 21)
	if v := r.Int64(); v != -2 {
		t.Errorf("P1.3: Int64: %d", v)
	}
	stands(t, "P1.3: Int64", r, api.OK, 13)
	if v := r.Text(2); v != "ab" {
		t.Errorf("P1.3: Text: %q", v)
	}
	stands(t, "P1.3: Text", r, api.OK, 7)
	if v := r.Buffer(2); !bytes.Equal(v, []byte{1, 2}) {
		t.Errorf("P1.3: Buffer: % x", v)
	}
	stands(t, "P1.3: Buffer", r, api.OK, 1)
	if v := r.Raw(1); !bytes.Equal(v, []byte{9}) {
		t.Errorf("P1.3: Raw: % x", v)
	}
	stands(t, "P1.3: Raw", r, api.OK, 0)
	if r.End() != api.OK {
		t.Errorf("P1.4: End: %d", r.End())
	}
}

func TestReaderNumbers(t *testing.T) {
	r := pack.New([]byte{0x80, 0x7F, 0x80, 0, 0, 0, 1, 2, 3, 4, 0xF1, 2, 3, 4, 0x80, 0, 0, 0, 0, 0, 0, 0, 1, 2, 3, 4, 5, 6, 7, 8})
	if a, b := r.Int8(), r.Int8(); a != -128 || b != 127 {
		t.Errorf("P1.3: Int8: %d, %d", a, b)
	}
	if a, b := r.Int32(), r.Int32(); a != math.MinInt32 || b != 0x01020304 {
		t.Errorf("P1.3: Int32: %d, %x", a, b)
	}
	if a := r.Uint32(); a != 0xF1020304 {
		t.Errorf("P1.3: Uint32: %x", a)
	}
	if a, b := r.Int64(), r.Int64(); a != math.MinInt64 || b != 0x0102030405060708 {
		t.Errorf("P1.3: Int64: %d, %x", a, b)
	}
	if r.End() != api.OK {
		t.Errorf("P1.4: End: %d", r.End())
	}
}

func TestReaderBool(t *testing.T) {
	for b := range 256 {
		r := pack.New([]byte{byte(b)})
		v := r.Bool()
		e, left := api.OK, 0
		if b > 1 {
			e, left = api.ErrByte, 1
		}
		if v != (b == 1) || r.End() != e {
			t.Errorf("P1.3: Bool of %02x: %v, End %d", b, v, r.End())
		}
		stands(t, "P1.3: Bool", r, e, left)
	}
}

func TestReaderFloat(t *testing.T) {
	for _, c := range []struct {
		bits uint64
		e    api.Errno
	}{
		{0, api.OK}, {1 << 63, api.OK}, {0x3FF0 << 48, api.OK}, {0x7FF0 << 48, api.OK}, {0xFFF0 << 48, api.OK}, {0x7FF8 << 48, api.OK}, {1, api.OK},
		{0x7FEF<<48 | 1<<48 - 1, api.OK},
		{0x7FF8<<48 | 1, api.ErrByte}, {0x7FF0<<48 | 1, api.ErrByte}, {0xFFF8 << 48, api.ErrByte}, {0xFFF0<<48 | 1, api.ErrByte}, {0x7FFC << 48, api.ErrByte}, {math.MaxUint64, api.ErrByte},
	} {
		r := pack.New(written(func(w *pack.Writer) { w.Int64(int64(c.bits)) }))
		v := math.Float64bits(r.Float())
		want, left := c.bits, 0
		if c.e != api.OK {
			want, left = 0, 8
		}
		if v != want {
			t.Errorf("P1.3: Float of %016x: %016x", c.bits, v)
		}
		stands(t, "P1.3: Float", r, c.e, left)
	}
}

func TestReaderFourthExample(t *testing.T) {
	b := []byte{0, 0, 0, 2, 0x61}
	r := pack.New(b)
	if s := r.Text(8); s != "" {
		t.Errorf("P1.3: Text(8): %q", s)
	}
	stands(t, "P1.3: Text(8)", r, api.ErrShort, 5)
	r = pack.New(b)
	if s := r.Text(1); s != "" {
		t.Errorf("P1.3: Text(1): %q", s)
	}
	stands(t, "P1.3: Text(1)", r, api.ErrWide, 5)
	r = pack.New(b)
	if p := r.Raw(4); !bytes.Equal(p, b[:4]) {
		t.Errorf("P1.3: Raw(4): % x", p)
	}
	if s := r.Text(8); s != "" {
		t.Errorf("P1.3: Text(8): %q", s)
	}
	stands(t, "P1.3: Text(8) of one byte", r, api.ErrShort, 1)
}

// TestReaderLengths: texts and buffers with lengths at their bound, one beyond, below 0, and of bytes that end early.
func TestReaderLengths(t *testing.T) {
	for _, c := range []struct {
		b    []byte
		most int
		want string
		e    api.Errno
		left int
	}{
		{[]byte{0, 0, 0, 0}, 0, "", api.OK, 0},
		{[]byte{0, 0, 0, 0, 5}, 0, "", api.OK, 1},
		{[]byte{0, 0, 0, 2, 'a', 'b'}, 2, "ab", api.OK, 0},
		{[]byte{0, 0, 0, 2, 'a', 'b'}, math.MaxInt, "ab", api.OK, 0},
		{[]byte{0, 0, 0, 2, 'a', 'b', 'c'}, 3, "ab", api.OK, 1},
		{[]byte{0, 0, 0, 3, 'a', 'b', 'c'}, 2, "", api.ErrWide, 7},
		{[]byte{0, 0, 0, 3, 'a', 'b'}, 3, "", api.ErrShort, 6},
		{[]byte{0, 0, 0, 3, 'a', 'b'}, 2, "", api.ErrWide, 6},
		{[]byte{0, 0, 0, 1}, 1, "", api.ErrShort, 4},
		{[]byte{0, 0, 0, 0}, -1, "", api.ErrWide, 4},
		{[]byte{0, 0, 0, 0}, math.MinInt, "", api.ErrWide, 4},
		{[]byte{255, 255, 255, 255}, 9, "", api.ErrWide, 4},
		{[]byte{255, 255, 255, 255}, -1, "", api.ErrWide, 4},
		{[]byte{255, 255, 255, 255}, math.MinInt, "", api.ErrWide, 4},
		{[]byte{0x80, 0, 0, 0}, math.MaxInt, "", api.ErrWide, 4},
		{[]byte{0x7F, 255, 255, 255}, math.MaxInt, "", api.ErrShort, 4},
		{[]byte{0x7F, 255, 255, 255}, 1, "", api.ErrWide, 4},
		{[]byte{0, 0, 0}, -1, "", api.ErrShort, 3},
		{[]byte{0, 0, 0}, 9, "", api.ErrShort, 3},
		{nil, 9, "", api.ErrShort, 0},
	} {
		r := pack.New(c.b)
		if s := r.Text(c.most); s != c.want {
			t.Errorf("P1.3: Text(%d) of % x: %q", c.most, c.b, s)
		}
		stands(t, "P1.3: Text", r, c.e, c.left)
		r = pack.New(c.b)
		if s := r.Buffer(c.most); string(s) != c.want || c.e != api.OK && s != nil {
			t.Errorf("P1.3: Buffer(%d) of % x: %q", c.most, c.b, s)
		}
		stands(t, "P1.3: Buffer", r, c.e, c.left)
	}
}

func TestReaderRaw(t *testing.T) {
	for _, c := range []struct {
		n    int
		want []byte
		e    api.Errno
		left int
	}{
		{0, nil, api.OK, 2}, {1, []byte{5}, api.OK, 1}, {2, []byte{5, 6}, api.OK, 0},
		{3, nil, api.ErrShort, 2}, {math.MaxInt, nil, api.ErrShort, 2}, {-1, nil, api.ErrWide, 2}, {math.MinInt, nil, api.ErrWide, 2},
	} {
		r := pack.New([]byte{5, 6})
		if b := r.Raw(c.n); !bytes.Equal(b, c.want) {
			t.Errorf("P1.3: Raw(%d): % x", c.n, b)
		}
		stands(t, "P1.3: Raw", r, c.e, c.left)
	}
	r := pack.New(nil)
	if len(r.Raw(0)) != 0 || r.End() != api.OK {
		t.Errorf("P1.3: Raw(0) at the end: %d", r.End())
	}
}

// TestReaderEndsWithinAValue: every beginning of a value's bytes that is not all of them.
func TestReaderEndsWithinAValue(t *testing.T) {
	width := map[string]int{"Bool": 1, "Int8": 1, "Int32": 4, "Uint32": 4, "Int64": 8, "Float": 8, "Text": 9, "Buffer": 9, "Raw": 1, "GetList": 9}
	all := []byte{0, 0, 0, 5, 1, 1, 1, 1, 1}
	for _, k := range kinds() {
		for n := range width[k.name] {
			r := pack.New(all[:n])
			if !k.zero(r) {
				t.Errorf("P1.3: %s of %d bytes: not zero", k.name, n)
			}
			stands(t, "P1.3: "+k.name, r, api.ErrShort, n)
		}
		r := pack.New(all[:width[k.name]])
		k.zero(r)
		stands(t, "P1.3: all of "+k.name, r, api.OK, 0)
	}
}

// TestReaderFaultStays: the bytes ahead could be read as anything, but for the fault.
func TestReaderFaultStays(t *testing.T) {
	b := []byte{2, 0, 0, 0, 1, 1, 1, 1, 1, 1, 1, 1, 1}
	faults := []struct {
		e    api.Errno
		make func(r *pack.Reader)
	}{
		{api.ErrByte, func(r *pack.Reader) { r.Bool() }},
		{api.ErrShort, func(r *pack.Reader) { r.Raw(99) }},
		{api.ErrWide, func(r *pack.Reader) { r.Raw(-1) }},
		{api.ErrTxn, func(r *pack.Reader) { r.Fail(api.ErrTxn) }},
		{api.Errno(-7), func(r *pack.Reader) { r.Fail(-7) }},
	}
	for _, f := range faults {
		for _, k := range kinds() {
			r := pack.New(b)
			f.make(r)
			stands(t, "P1.3: a fault", r, f.e, len(b))
			if !k.zero(r) || r.Raw(0) != nil || r.End() != f.e {
				t.Errorf("P1.3: %s behind fault %d: not zero, or End %d", k.name, f.e, r.End())
			}
			r.Raw(-1)
			r.Fail(api.ErrPath)
			r.Fail(api.OK)
			stands(t, "P1.4: a fault stays, behind "+k.name, r, f.e, len(b))
		}
	}
}

func TestReaderFaultKeepsItsPlace(t *testing.T) {
	r := pack.New([]byte{7, 2, 0, 0})
	if r.Int8() != 7 || r.Bool() || r.Int8() != 0 {
		t.Errorf("P1.3: read on behind a fault")
	}
	stands(t, "P1.3: a fault in the middle", r, api.ErrByte, 3)
}

func TestReaderFailErrEnd(t *testing.T) {
	r := pack.New([]byte{1, 1})
	if !r.Bool() || r.End() != api.ErrRest || r.Err() != api.OK || !r.Bool() || r.End() != api.OK {
		t.Errorf("P1.4: the fifth example: Err %d, End %d", r.Err(), r.End())
	}
	r = pack.New([]byte{2})
	if r.Bool() || r.End() != api.ErrByte {
		t.Errorf("P1.4: the fault goes ahead of ErrRest: %d", r.End())
	}
	r = pack.New([]byte{5})
	r.Fail(api.OK)
	if r.Err() != api.OK || r.Int8() != 5 || r.End() != api.OK {
		t.Errorf("P1.4: Fail(OK) is no fault: %d", r.Err())
	}
	r.Fail(api.ErrAcl)
	if r.Err() != api.ErrAcl || r.End() != api.ErrAcl {
		t.Errorf("P1.4: Fail at the end: %d", r.Err())
	}
	for _, b := range [][]byte{nil, {}} {
		if r = pack.New(b); r.Left() != 0 || r.Err() != api.OK || r.End() != api.OK {
			t.Errorf("R4: New of none: Left %d, Err %d, End %d", r.Left(), r.Err(), r.End())
		}
	}
}

// TestReaderSharesNothing: neither the bytes that it was given nor those that it answers, nor the spare room of either.
func TestReaderSharesNothing(t *testing.T) {
	room := []byte{1, 2, 0, 0, 0, 1, 3, 4, 77, 78}
	given := room[:8]
	r := pack.New(given)
	copy(room, make([]byte, 10))
	raw := r.Raw(2)
	_ = append(raw, 9, 9, 9, 9, 9, 9)
	raw[0] = 8
	buffer := r.Buffer(4)
	if !bytes.Equal(buffer, []byte{3}) {
		t.Errorf("R5: what was given, or answered, is the Reader's own: % x", buffer)
	}
	_ = append(buffer, 9, 9)
	buffer[0] = 8
	if v := r.Int8(); v != 4 || !bytes.Equal(raw, []byte{8, 2}) || r.End() != api.OK {
		t.Errorf("R5: an answer grew into what is unread: %d", v)
	}
	if !bytes.Equal(room, make([]byte, 10)) {
		t.Errorf("R5: the argument was changed: % x", room)
	}
}

func TestReaderOfNobody(t *testing.T) {
	for name, r := range map[string]*pack.Reader{"nil": nil, "plain": {}} {
		for _, k := range kinds() {
			if !k.zero(r) {
				t.Errorf("R3: %s of a %s Reader: not zero", k.name, name)
			}
		}
		r.Raw(-1)
		r.Raw(0)
		r.Fail(api.ErrTxn)
		if r.Left() != 0 || r.Err() != api.ErrArg || r.End() != api.ErrArg {
			t.Errorf("P1.4: a %s Reader: Left %d, Err %d, End %d", name, r.Left(), r.Err(), r.End())
		}
	}
}
