package frame_test

import (
	"bytes"
	"iter"
	"slices"
	"sync"
	"testing"

	"lagoon/api"
	"lagoon/frame"
)

var twoReads = []read{{10, "\x07"}, {22, "abc"}}

// over is what one more going over a walk gives.
func over(walk iter.Seq2[int, []byte]) []read {
	var out []read
	for end, body := range walk {
		out = append(out, read{end, string(body)})
	}
	return out
}

func TestAllSeveralTimes(t *testing.T) {
	walk := frame.All(join(seven, abc))
	for i := range 3 {
		if got := over(walk); !slices.Equal(got, twoReads) {
			t.Errorf("P3.2: going %d gives %v", i, got)
		}
	}
}

func TestAllLeftEarly(t *testing.T) {
	walk := frame.All(join(seven, abc, seven))
	for most := range 4 {
		n := 0
		walk(func(int, []byte) bool {
			n++
			return n < most
		})
		if n != max(most, 1) {
			t.Errorf("P3.2: left at %d: %d were given", most, n)
		}
	}
	if got := over(walk); len(got) != 3 {
		t.Errorf("P3.2: behind goings that were left: %v", got)
	}
}

func TestAllNested(t *testing.T) {
	walk := frame.All(join(seven, abc))
	var got []read
	for end, body := range walk {
		got = append(got, read{end, string(body)})
		clear(body)
		for end, body := range walk {
			got = append(got, read{end, string(body)})
			clear(body)
		}
	}
	want := slices.Concat(twoReads[:1], twoReads, twoReads[1:], twoReads)
	if !slices.Equal(got, want) {
		t.Errorf("P3.2: nested: %v, not %v", got, want)
	}
}

func TestAllPulled(t *testing.T) {
	walk := frame.All(join(seven, abc))
	next, stop := iter.Pull2(walk)
	other, stopOther := iter.Pull2(walk)
	defer stopOther()
	for _, want := range twoReads {
		for _, f := range []func() (int, []byte, bool){next, other} {
			if end, body, ok := f(); !ok || end != want.end || string(body) != want.body {
				t.Errorf("P3.2: side by side: %d, %q, %v, not %v", end, body, ok, want)
			}
		}
	}
	stop()
	if _, _, ok := other(); ok {
		t.Error("P3.2: a third frame")
	}
}

// TestAllAsAtTheCall: what is written over b, ahead of a going, between two and within one, is not seen.
func TestAllAsAtTheCall(t *testing.T) {
	b := join(seven, abc)
	walk := frame.All(b)
	clear(b)
	if got := over(walk); !slices.Equal(got, twoReads) {
		t.Errorf("P3.2: b was cleared behind the call: %v", got)
	}
	copy(b, join(abc, seven))
	var got []read
	for end, body := range walk {
		got = append(got, read{end, string(body)})
		clear(b)
	}
	if !slices.Equal(got, twoReads) {
		t.Errorf("P3.2: b was written over between two goings, and within one: %v", got)
	}
	room := append(make([]byte, 0, 64), join(seven, abc[:11])...)
	walk = frame.All(room)
	_ = append(room, 0x42)
	if got := over(walk); !slices.Equal(got, twoReads[:1]) {
		t.Errorf("P3.2: b's spare room was filled behind the call: %v", got)
	}
	if n := frame.Whole(room); n != 10 {
		t.Errorf("P3.3: of b's spare room: %d", n)
	}
}

// TestAllNewMemory: each body is its own, each time, its spare room too.
func TestAllNewMemory(t *testing.T) {
	b := join(seven, abc)
	kept := bytes.Clone(b)
	walk := frame.All(b)
	var bodies [][]byte
	for range 2 {
		for _, body := range walk {
			bodies = append(bodies, body)
		}
	}
	for i, body := range bodies {
		for j := range body[:cap(body)] {
			body[:cap(body)][j] = byte(0x80 + i)
		}
	}
	for i, body := range bodies {
		for _, x := range body[:cap(body)] {
			if x != byte(0x80+i) {
				t.Errorf("P3.2, R5: body %d shares memory with another one", i)
			}
		}
	}
	if !bytes.Equal(b, kept) {
		t.Error("P3.2, R5: a body shares memory with b")
	}
	if got := over(walk); !slices.Equal(got, twoReads) {
		t.Errorf("P3.2, R5: a body shares memory with what is kept: %v", got)
	}
	for end, body := range walk {
		for j := range body[:cap(body)] {
			body[:cap(body)][j] = 0xEE
		}
		if end == 10 && !slices.Equal(over(walk), twoReads) {
			t.Error("P3.2, R5: a body that is written to within a going is seen in another one")
		}
	}
}

func TestAllSideBySide(t *testing.T) {
	walk := frame.All(join(seven, abc))
	var wait sync.WaitGroup
	for range 4 {
		wait.Go(func() {
			if got := over(walk); !slices.Equal(got, twoReads) {
				t.Errorf("P3.2: %v", got)
			}
		})
	}
	wait.Wait()
}

func TestAllWithoutYield(t *testing.T) {
	frame.All(seven)(nil)
	frame.All(nil)(nil)
}

// TestAllPanicGoesOn: a panic is its loop's own: All neither catches it nor goes on.
func TestAllPanicGoesOn(t *testing.T) {
	n := 0
	func() {
		defer func() {
			if recover() != "mine" {
				t.Error("P3.2: the loop's panic is lost")
			}
		}()
		for range frame.All(join(seven, abc)) {
			n++
			panic("mine")
		}
	}()
	if n != 1 {
		t.Errorf("P3.2: %d goings on behind a panic", n)
	}
}

func TestPutNewMemory(t *testing.T) {
	body := append(make([]byte, 0, 64), "abc"...)
	room := body[:cap(body)]
	f, _ := frame.Put(body)
	g, _ := frame.Put(body)
	for i := range f[:cap(f)] {
		f[:cap(f)][i] = 0xEE
	}
	if string(body) != "abc" || !bytes.Equal(room[3:], make([]byte, 61)) {
		t.Errorf("P3.1, R5: body is %x", room)
	}
	if !bytes.Equal(g, abc) {
		t.Errorf("P3.1, R5: two answers share memory: %x", g)
	}
	clear(body)
	if !bytes.Equal(g, abc) {
		t.Errorf("P3.1, R5: the body is kept: %x", g)
	}
}

func TestOneNewMemory(t *testing.T) {
	b := append(make([]byte, 0, 64), abc...)
	kept := bytes.Clone(b[:cap(b)])
	x, e := frame.One(b)
	y, _ := frame.One(b)
	if e != api.OK {
		t.Fatalf("P3.4: One: %d", e)
	}
	for i := range x[:cap(x)] {
		x[:cap(x)][i] = 0xEE
	}
	if !bytes.Equal(b[:cap(b)], kept) {
		t.Errorf("P3.4, R5: b is %x", b[:cap(b)])
	}
	if string(y) != "abc" {
		t.Errorf("P3.4, R5: two answers share memory: %q", y)
	}
	clear(b)
	if string(y) != "abc" {
		t.Errorf("P3.4, R5: the body shares memory with b: %q", y)
	}
}

// TestOneOfSpareRoom: what lies behind b in its memory is not read.
func TestOneOfSpareRoom(t *testing.T) {
	b := join(seven, abc)
	if x, e := frame.One(b[:9]); e != api.ErrFrame || len(x) != 0 {
		t.Errorf("P3.4: One of a frame's first 9 bytes: %x, %d", x, e)
	}
	if x, e := frame.One(b[:10]); e != api.OK || !bytes.Equal(x, []byte{7}) {
		t.Errorf("P3.4: One of a frame with bytes behind it in memory: %x, %d", x, e)
	}
}
