package frame_test

import (
	"bytes"
	"encoding/binary"
	"hash/adler32"
	"slices"
	"strings"
	"testing"

	"lagoon/api"
	"lagoon/frame"
)

var (
	seven = []byte{0, 0, 0, 1, 0, 8, 0, 8, 7, 0x42}
	abc   = []byte{0, 0, 0, 3, 2, 0x4D, 1, 0x27, 'a', 'b', 'c', 0x42}
	none  = []byte{0, 0, 0, 0, 0, 0, 0, 1, 0x42} // what the frame of a body without a byte would be
)

// read is what All gives of one frame.
type read struct {
	end  int
	body string
}

// join lays texts one behind the other, in memory of its own.
func join(texts ...[]byte) []byte { return slices.Concat(texts...) }

// turned is a copy of b with another byte at a place.
func turned(b []byte, at int, to byte) []byte {
	out := bytes.Clone(b)
	out[at] = to
	return out
}

// framed is the frame of a body by the document's words alone; of one that is none too.
func framed(body []byte) []byte {
	out := binary.BigEndian.AppendUint32(nil, uint32(len(body)))
	out = binary.BigEndian.AppendUint32(out, adler32.Checksum(body))
	return append(append(out, body...), 0x42)
}

// wants is what All is to give of b, by the document's words alone.
func wants(b []byte) []read {
	var out []read
	for at := 0; len(b)-at >= 9; {
		n := int64(binary.BigEndian.Uint32(b[at:]))
		if n < 1 || n > 1<<20 || n > int64(len(b)-at-9) {
			return out
		}
		body := b[at+8 : at+8+int(n)]
		if !bytes.HasPrefix(b[at:], framed(body)) {
			return out
		}
		at += len(body) + 9
		out = append(out, read{at, string(body)})
	}
	return out
}

// gone is what one going over All gives.
func gone(b []byte) []read {
	var out []read
	for end, body := range frame.All(b) {
		out = append(out, read{end, string(body)})
	}
	return out
}

// reads looks that All, Whole and One say of b that just these frames are whole at its beginning.
func reads(t *testing.T, what string, b []byte, want []read) {
	t.Helper()
	kept := bytes.Clone(b)
	if got := gone(b); !slices.Equal(got, want) {
		t.Errorf("P3.2: %s: All gives %s, not %s", what, told(got), told(want))
	}
	whole := 0
	if len(want) > 0 {
		whole = want[len(want)-1].end
	}
	if n := frame.Whole(b); n != whole {
		t.Errorf("P3.3: %s: Whole is %d, not %d", what, n, whole)
	}
	body, e := frame.One(b)
	if len(want) == 1 && whole == len(b) {
		if e != api.OK || string(body) != want[0].body {
			t.Errorf("P3.4: %s: One is %d bytes, %d, not the body", what, len(body), e)
		}
	} else if e != api.ErrFrame || len(body) != 0 {
		t.Errorf("P3.4: %s: One is %d bytes, %d, not ErrFrame", what, len(body), e)
	}
	if !bytes.Equal(b, kept) {
		t.Errorf("R5: %s: b was changed", what)
	}
}

// told says what was read without the great bodies' bytes.
func told(l []read) string {
	var out strings.Builder
	for _, r := range l {
		body := r.body
		if len(body) > 16 {
			body = body[:16] + ".."
		}
		out.WriteString(" " + string(binary.BigEndian.AppendUint32(nil, uint32(r.end))) + ":" + body)
	}
	return strings.ToValidUTF8(out.String(), "?")
}

func TestPutExamples(t *testing.T) {
	for _, c := range []struct {
		body, want []byte
	}{
		{[]byte{7}, seven},
		{[]byte("abc"), abc},
		{[]byte{0}, []byte{0, 0, 0, 1, 0, 1, 0, 1, 0, 0x42}},
		{[]byte{0x42}, []byte{0, 0, 0, 1, 0, 0x43, 0, 0x43, 0x42, 0x42}},
	} {
		if f, e := frame.Put(c.body); e != api.OK || !bytes.Equal(f, c.want) {
			t.Errorf("P3.1: Put(%x) is %x, %d, not %x", c.body, f, e, c.want)
		}
	}
}

func TestPutSizes(t *testing.T) {
	for _, n := range []int{1, 2, 255, 256, 257, 65535, 65536, api.MaxFrame - 1, api.MaxFrame} {
		body := bytes.Repeat([]byte{0xFE}, n)
		f, e := frame.Put(body)
		if e != api.OK || !bytes.Equal(f, framed(body)) {
			t.Errorf("P3.1: Put of %d bytes: %d bytes, %d", n, len(f), e)
		}
		reads(t, "a frame", f, []read{{n + 9, string(body)}})
	}
	for what, body := range map[string][]byte{"nil": nil, "no bytes": {}, "one too many": make([]byte, api.MaxFrame+1), "twice as many": make([]byte, 2*api.MaxFrame)} {
		if f, e := frame.Put(body); e != api.ErrFrame || len(f) != 0 {
			t.Errorf("P3.1: Put of %s: %d bytes, %d", what, len(f), e)
		}
	}
}

func TestReadExamples(t *testing.T) {
	both := join(seven, abc)
	one, two := read{10, "\x07"}, read{22, "abc"}
	for _, c := range []struct {
		what string
		b    []byte
		want []read
	}{
		{"the two", both, []read{one, two}},
		{"the first 21", both[:21], []read{one}},
		{"the first 10", both[:10], []read{one}},
		{"the first 9", both[:9], nil},
		{"43 in the place of the first 42", turned(both, 9, 0x43), nil},
		{"nil", nil, nil},
		{"no bytes", []byte{}, nil},
		{"a body without a byte", none, nil},
	} {
		reads(t, c.what, c.b, c.want)
	}
}

func TestCutOffEverywhere(t *testing.T) {
	bodies := []string{"\x07", "abc", "\x42", "", strings.Repeat("\x42", 9), string(abc), strings.Repeat("\x00", 300)}
	var all []byte
	var want []read
	for _, s := range bodies {
		if s == "" {
			continue
		}
		f, e := frame.Put([]byte(s))
		if e != api.OK {
			t.Fatalf("P3.1: Put(%q): %d", s, e)
		}
		all = append(all, f...)
		want = append(want, read{len(all), s})
	}
	for n := range len(all) + 1 {
		whole := slices.IndexFunc(want, func(r read) bool { return r.end > n })
		if whole < 0 {
			whole = len(want)
		}
		reads(t, "a beginning", all[:n], want[:whole])
	}
}

// TestTurned: of a byte that is none of a length, every other value is told.
func TestTurned(t *testing.T) {
	frames := [][]byte{seven, abc, framed([]byte{0, 0xFF}), framed(bytes.Repeat([]byte{0xFF}, 257))}
	all := join(frames...)
	want := wants(all)
	if len(want) != len(frames) {
		t.Fatalf("%d frames, not %d", len(want), len(frames))
	}
	begin := 0
	for i, f := range frames {
		for at := range f {
			for to := range 256 {
				b := turned(all, begin+at, byte(to))
				switch {
				case byte(to) == f[at]:
					reads(t, "nothing turned", b, want)
				case at >= 4:
					reads(t, "a byte turned", b, want[:i])
				default:
					reads(t, "a byte of a length turned", b, wants(b))
				}
			}
		}
		begin += len(f)
	}
}

func TestLengths(t *testing.T) {
	for _, n := range []uint32{0, 2, 3, 11, 12, 13, 14, 255, 256, 1 << 16, 1 << 20, 1<<20 + 1, 1 << 24, 1<<31 - 10, 1<<31 - 9, 1<<31 - 8, 1<<31 - 1, 1 << 31, 1<<31 + 1, 1<<32 - 10, 1<<32 - 9, 1<<32 - 8, 1<<32 - 1} {
		lying := binary.BigEndian.AppendUint32(nil, n)
		reads(t, "a length that lies", join(lying, seven[4:]), nil)
		reads(t, "a length that lies, behind a frame", join(abc, lying, seven[4:]), []read{{12, "abc"}})
		reads(t, "a length that lies, ahead of a frame", join(lying, seven[4:], abc), nil)
	}
	for n := range 9 {
		reads(t, "nothing but a beginning", bytes.Repeat([]byte{0}, n), nil)
		reads(t, "nothing but a length's beginning", bytes.Repeat([]byte{0xFF}, n), nil)
	}
	wide := framed(make([]byte, api.MaxFrame+1))
	reads(t, "a body of one byte too many", wide, nil)
	reads(t, "a body of one byte too many, behind a frame", join(seven, wide), []read{{10, "\x07"}})
	for _, body := range [][]byte{{0x42}, {7, 0x42}} { // the body's last byte is the mark of a shorter one, whose sum it is not
		b := framed(body)
		b[3]--
		reads(t, "a length that is one less", b, nil)
	}
}

// TestOneLengthTwoMarks: two lengths may be right for the same sum and lie before the same mark; the one that is written counts.
func TestOneLengthTwoMarks(t *testing.T) {
	// The first 257 bytes bring the sum's low half to nought, so that noughts behind them leave the sum as it is.
	short := append(bytes.Repeat([]byte{0xFF}, 256), 240)
	long := append(bytes.Clone(short), 0, 0)
	if adler32.Checksum(short) != adler32.Checksum(long) {
		t.Fatal("the sums differ")
	}
	reads(t, "the short one", framed(short), []read{{266, string(short)}})
	reads(t, "the long one", framed(long), []read{{268, string(long)}})
	b := framed(long)
	b[3] -= 2 // right but for the mark, which stands two bytes later
	reads(t, "the long one with the short one's length", b, nil)
	b[8+257] = 0x42
	reads(t, "the short one, and bytes behind it", b, []read{{266, string(short)}})
}

func TestBehind(t *testing.T) {
	both := join(seven, abc)
	want := []read{{10, "\x07"}, {22, "abc"}}
	for _, rest := range [][]byte{{0}, {0x42}, {0, 0, 0}, {0, 0, 0, 1}, none, make([]byte, 100), bytes.Repeat([]byte{0xFF}, 100), turned(seven, 9, 0), turned(seven, 7, 9), seven[1:], abc[:11]} {
		reads(t, "bytes behind", join(both, rest), want)
		reads(t, "bytes behind one", join(seven, rest), want[:1])
		reads(t, "bytes ahead", join(rest, both), wants(join(rest, both)))
		reads(t, "bytes between", join(seven, rest, abc), want[:1])
	}
	reads(t, "three of them", join(seven, seven, seven), []read{{10, "\x07"}, {20, "\x07"}, {30, "\x07"}})
}

func TestGreat(t *testing.T) {
	body := make([]byte, api.MaxFrame)
	for i := range body {
		body[i] = byte(i * i >> 3)
	}
	f, e := frame.Put(body)
	if e != api.OK {
		t.Fatalf("P3.1: Put: %d", e)
	}
	first := read{len(f), string(body)}
	reads(t, "a great one and a small one", join(f, seven), []read{first, {len(f) + 10, "\x07"}})
	reads(t, "a great one, torn", f[:len(f)-1], nil)
	for _, at := range []int{4, 7, 8, 8 + api.MaxFrame/2, 8 + api.MaxFrame - 1, 8 + api.MaxFrame} {
		reads(t, "a great one, turned", turned(f, at, f[at]+1), nil)
	}
}
