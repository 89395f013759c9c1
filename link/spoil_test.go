package link_test

import (
	"strings"
	"testing"

	"lagoon/api"
)

// TestSpoilOfEachByte: all values of a byte, and of what is turned in it, at the first place, in the middle, and at the last.
func TestSpoilOfEachByte(t *testing.T) {
	for was := range 256 {
		text := string([]byte{byte(was), byte(was), byte(was)})
		for xor := 1; xor < 256; xor++ {
			at := (was + xor) % 3
			p := begun(t, 2)
			p.n.Send(0, 1, []byte(text))
			if e := p.n.Spoil(0, at, byte(xor)); e != api.OK {
				t.Fatalf("P22.3: Spoil(0, %d, %d) = %d", at, xor, e)
			}
			want := []byte(text)
			want[at] = byte(was) ^ byte(xor)
			if m, _ := p.n.Take(0); seen(m) != (sent{0, 1, string(want), true}) {
				t.Fatalf("P22.3: %q, at %d turned by %d, is %v", text, at, xor, seen(m))
			}
		}
	}
}

// TestSpoilOfEachPlace: of the messages, and of each one's bytes; no other byte and no other message is another one.
func TestSpoilOfEachPlace(t *testing.T) {
	for place, text := range five() {
		for at := range len(text) {
			for _, xor := range []byte{1, 0x80, 0xFF} {
				p := with(t, five()...)
				p.spoils(t, place, at, xor, api.OK)
				p.spoils(t, place, at, xor, api.ErrLink)
			}
		}
	}
}

// TestSpoilBeyondBytes: below the first byte and behind the last, of one byte and of the most.
func TestSpoilBeyondBytes(t *testing.T) {
	for _, size := range []int{1, 2, 9, 4096, 8192} {
		p := with(t, "ahead", strings.Repeat("s", size), "behind")
		for _, at := range append([]int{size, size + 1, 8192, 8193}, noPlaces...) {
			if at >= 0 && at < size {
				continue
			}
			for _, xor := range []byte{0, 1, 255} {
				p.spoils(t, 1, at, xor, api.ErrArg)
			}
		}
		p.spoils(t, 1, size-1, 0, api.ErrArg)
		p.spoils(t, 1, 0, 0, api.ErrArg)
		p.spoils(t, 1, size-1, 1, api.OK)
	}
}

// TestSpoilTwice: it stays as it was turned once, wherever it is asked to be turned then.
func TestSpoilTwice(t *testing.T) {
	for first := range 3 {
		p := with(t, "other", "abc", "other")
		p.spoils(t, 1, first, 6, api.OK)
		for second := range 3 {
			for _, xor := range []byte{1, 6, 255} {
				p.spoils(t, 1, second, xor, api.ErrLink)
			}
		}
		p.spoils(t, 0, first, 6, api.OK)
		p.spoils(t, 2, first, 6, api.OK)
	}
}

// TestSpoilErrors: of two errors the first one, in the order of the chapter.
func TestSpoilErrors(t *testing.T) {
	p := with(t, "ab", "cd")
	p.spoils(t, 1, 0, 1, api.OK)
	for _, c := range []struct {
		what      string
		place, at int
		xor       byte
		want      api.Errno
	}{
		{"no place, no byte", 2, 2, 1, api.ErrLink},
		{"no place, no byte", -1, -1, 1, api.ErrLink},
		{"no place, xor 0", 2, 0, 0, api.ErrLink},
		{"no place, xor 0", -1, 0, 0, api.ErrLink},
		{"spoilt, no byte", 1, 2, 1, api.ErrArg},
		{"spoilt, no byte", 1, -1, 1, api.ErrArg},
		{"spoilt, xor 0", 1, 0, 0, api.ErrArg},
		{"spoilt, neither", 1, 2, 0, api.ErrArg},
		{"spoilt", 1, 1, 1, api.ErrLink},
		{"neither", 0, 2, 0, api.ErrArg},
	} {
		t.Run(c.what, func(t *testing.T) { p.spoils(t, c.place, c.at, c.xor, c.want) })
	}
}

// TestSpoiltMoves: a message is spoilt wherever it stands, and one that comes to its place is not.
func TestSpoiltMoves(t *testing.T) {
	p := with(t, five()...)
	p.spoils(t, 3, 1, 4, api.OK)
	p.takes(t, 0, api.OK)
	p.spoils(t, 2, 0, 4, api.ErrLink)
	p.spoils(t, 3, 0, 4, api.OK)
	p.takes(t, 2, api.OK)
	p.spoils(t, 2, 0, 4, api.ErrLink)
	p.takes(t, 2, api.OK)
	p.sends(t, 0, 1, "new", api.OK)
	p.spoils(t, 2, 0, 4, api.OK)
}
