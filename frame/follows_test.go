package frame_test

import (
	"bytes"
	"math/rand/v2"
	"testing"

	"lagoon/api"
	"lagoon/frame"
)

// anyBody gives a body of up to 40 bytes, often ones that frames are made of.
func anyBody(r *rand.Rand) []byte {
	body := make([]byte, 1+r.IntN(40))
	for i := range body {
		switch r.IntN(3) {
		case 0:
			body[i] = 0x42
		case 1:
			body[i] = byte(r.IntN(4))
		default:
			body[i] = byte(r.IntN(256))
		}
	}
	if r.IntN(4) == 0 {
		f, _ := frame.Put(body)
		return f
	}
	return body
}

// TestFollows: random bodies behind one another, cut off, turned, with bytes behind them.
func TestFollows(t *testing.T) {
	r := rand.New(rand.NewPCG(3, 1))
	for range 3000 {
		var all []byte
		var want []read
		for range r.IntN(6) {
			body := anyBody(r)
			f, e := frame.Put(body)
			if e != api.OK {
				t.Fatalf("P3.1: Put(%x): %d", body, e)
			}
			reads(t, "one frame", f, []read{{len(f), string(body)}})
			all = append(all, f...)
			want = append(want, read{len(all), string(body)})
		}
		reads(t, "all of them", all, want)
		if len(all) == 0 {
			continue
		}
		n := r.IntN(len(all))
		whole, begin := 0, 0
		for whole < len(want) && want[whole].end <= n {
			begin = want[whole].end
			whole++
		}
		reads(t, "a beginning", all[:n], want[:whole])
		b := turned(all, n, all[n]+byte(1+r.IntN(255)))
		if n-begin >= 4 {
			reads(t, "one byte turned", b, want[:whole])
		}
		reads(t, "one byte turned, as the words say", b, wants(b))
		b = join(all, bytes.Repeat([]byte{byte(r.IntN(256))}, r.IntN(12)))
		reads(t, "bytes behind", b, wants(b))
	}
}

// TestEveryShortText: of every text of ten bytes whose bytes are near those of a frame just the frames are taken.
func TestEveryShortText(t *testing.T) {
	choices := [10][]byte{{0, 1}, {0, 1}, {0, 1}, {0, 1, 2}, {0, 1}, {8, 9, 1}, {0, 1}, {8, 9, 1}, {7, 8, 0}, {0x42, 0x43, 7}}
	var text [10]byte
	taken := 0
	var fill func(at int)
	fill = func(at int) {
		if at == len(text) {
			b := text[:]
			want := wants(b)
			taken += len(want)
			reads(t, "a short text", b, want)
			return
		}
		for _, x := range choices[at] {
			text[at] = x
			fill(at + 1)
		}
	}
	fill(0)
	if taken != 3 { // those of 07, 08 and 00
		t.Errorf("P3.2: %d texts were frames", taken)
	}
}
