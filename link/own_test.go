package link_test

import (
	"bytes"
	"reflect"
	"runtime"
	"slices"
	"strings"
	"testing"

	"lagoon/api"
)

// span is the memory of a list, its spare room too.
type span struct{ from, to uintptr }

func spanOf(list any) span {
	l := reflect.ValueOf(list)
	return span{l.Pointer(), l.Pointer() + uintptr(l.Cap())*l.Type().Elem().Size()}
}

// apart tells whether no two of these lists have memory in common.
func apart(lists []any) bool {
	for i, a := range lists {
		for _, b := range lists[:i] {
			x, y := spanOf(a), spanOf(b)
			if max(x.from, y.from) < min(x.to, y.to) {
				return false
			}
		}
	}
	return true
}

// mixed is a net with copies, a spoilt one and texts of several lengths, behind a Take.
func mixed(t *testing.T) *pair {
	t.Helper()
	p := with(t, five()...)
	p.doubles(t, 1, api.OK)
	p.doubles(t, 3, api.OK)
	p.spoils(t, 5, 1, 1, api.OK)
	p.doubles(t, 5, api.OK)
	p.takes(t, 0, api.OK)
	p.sends(t, 2, 0, strings.Repeat("long", 30), api.OK)
	return p
}

// TestSentIsNotKept: what was handed to Send is not changed, nor its spare room, and may be written over.
func TestSentIsNotKept(t *testing.T) {
	for _, text := range []string{"a", "abc", strings.Repeat("b", 8192)} {
		p := begun(t, 3)
		in := roomy(text)
		if e, model := p.n.Send(0, 2, in), p.send(0, 2, text); e != api.OK || model != api.OK {
			t.Fatalf("P22.2: Send = %d", e)
		}
		p.doubles(t, 0, api.OK)
		p.spoils(t, 0, 0, 1, api.OK)
		for _, m := range p.n.All() {
			_ = append(m.Bytes, 1, 2, 3)
			wipe(m.Bytes)
		}
		m, _ := p.n.Take(0)
		p.take(0)
		_ = append(m.Bytes, 1, 2, 3)
		wipe(m.Bytes)
		if want := roomy(text); !bytes.Equal(in[:cap(in)], want[:cap(want)]) {
			t.Errorf("R5: what was handed to Send is another one: % x", in[:cap(in)])
		}
		wipe(in)
		p.looks(t, "a Send whose bytes were written over")
	}
}

// TestRefusedStays: also of bytes that are refused.
func TestRefusedStays(t *testing.T) {
	p := begun(t, 3)
	for _, text := range []string{"", "a", strings.Repeat("b", 8193)} {
		in := roomy(text)
		p.n.Send(0, 0, in)
		p.n.Send(0, 3, in)
		if want := roomy(text); !bytes.Equal(in[:cap(in)], want[:cap(want)]) {
			t.Errorf("R5: what was refused is another one: % x", in[:cap(in)])
		}
	}
	p.looks(t, "Sends that were refused")
}

// TestSameBytesAgain: sent twice, or read from what was told, each message has bytes of its own.
func TestSameBytesAgain(t *testing.T) {
	p := begun(t, 3)
	in := []byte("again")
	for range 3 {
		p.n.Send(0, 2, in)
		p.send(0, 2, "again")
	}
	told := p.n.All()[1].Bytes
	p.n.Send(2, 0, told)
	p.send(2, 0, "again")
	p.spoils(t, 1, 0, 1, api.OK)
	p.spoils(t, 3, 4, 1, api.OK)
	wipe(told)
	p.looks(t, "a Send of what All told")
}

// TestAllMayBeWrittenOver: the list, the bytes in it, and all spare room; and appended to.
func TestAllMayBeWrittenOver(t *testing.T) {
	p := mixed(t)
	l, other := p.n.All(), p.n.All()
	for _, m := range l {
		_ = append(m.Bytes, 0xAA, 0xAA, 0xAA)
	}
	if !slices.Equal(seenAll(l), p.all) {
		t.Errorf("R5: one's bytes grow into another's: %v", seenAll(l))
	}
	_ = append(l, api.Message{From: 9})
	p.looks(t, "an All that was appended to")
	for i, m := range l {
		wipe(m.Bytes)
		if left := seenAll(l[i+1:]); !slices.Equal(left, p.all[i+1:]) {
			t.Errorf("R5: %d was written over, and those behind are %v", i, left)
		}
	}
	l = l[:cap(l)]
	for i := range l {
		l[i] = api.Message{From: 9, Bytes: []byte("bad")}
	}
	p.looks(t, "an All that was written over")
	if !slices.Equal(seenAll(other), p.all) {
		t.Errorf("R5: two answers of All share memory: %v", seenAll(other))
	}
}

// TestAllIsWrittenOverBackwards: from the last on, too, each one's bytes are its own.
func TestAllIsWrittenOverBackwards(t *testing.T) {
	p := mixed(t)
	l := p.n.All()
	for i, m := range slices.Backward(l) {
		if seen(m) != p.all[i] {
			t.Errorf("R5: %d was written over by those behind it: %q", i, m.Bytes)
		}
		wipe(m.Bytes)
	}
	p.looks(t, "an All that was written over")
}

// TestTakenMayBeWrittenOver: what is still under way stays, copies of the same message too; and what All told stays.
func TestTakenMayBeWrittenOver(t *testing.T) {
	for place := range mixed(t).n.Len() {
		p := mixed(t)
		told, want := p.n.All(), slices.Clone(p.all)
		m := p.takes(t, place, api.OK)
		grown := append(m.Bytes, 0xAA, 0xAA, 0xAA)
		p.looks(t, "a Take that was appended to")
		wipe(grown)
		wipe(m.Bytes)
		p.looks(t, "a Take that was written over")
		for range 3 {
			p.sends(t, 0, 1, "new", api.OK)
			p.doubles(t, 0, api.OK)
		}
		if !slices.Equal(seenAll(told), want) {
			t.Errorf("R5: All shares memory with a Take: %v", seenAll(told))
		}
	}
}

// TestAnswersStay: what was told is not changed by what is done with the net behind it.
func TestAnswersStay(t *testing.T) {
	p := mixed(t)
	told, want := p.n.All(), slices.Clone(p.all)
	taken := p.takes(t, 2, api.OK)
	for place := range p.n.Len() {
		p.n.Spoil(place, 0, 0xFF)
		p.n.Double(place)
	}
	for p.n.Len() > 0 {
		m, _ := p.n.Take(p.n.Len() / 2)
		p.n.Send(0, 1, []byte("more"))
		p.n.Take(p.n.Len() - 1)
		wipe(m.Bytes)
	}
	p.n.Send(0, 1, []byte("more"))
	if !slices.Equal(seenAll(told), want) || seen(taken) != want[2] {
		t.Errorf("R5: what was told is another one: %v, %v", seenAll(told), seen(taken))
	}
}

// TestAnswersAreApart: no list that is told has memory in common with another one, or with what was handed in, spare room too.
func TestAnswersAreApart(t *testing.T) {
	p := mixed(t)
	in := roomy("handed in")
	p.n.Send(0, 1, in)
	p.n.Send(0, 1, in)
	lists := []any{in}
	gather := func(l []api.Message) {
		lists = append(lists, l)
		for _, m := range l {
			lists = append(lists, m.Bytes)
		}
	}
	gather(p.n.All())
	gather(p.n.All())
	p.n.Double(p.n.Len() - 1)
	gather(p.n.All())
	for p.n.Len() > 0 {
		m, _ := p.n.Take(0)
		lists = append(lists, m.Bytes)
	}
	if !apart(lists) {
		t.Errorf("R5: memory is shared")
	}
}

// held is how many bytes of memory are in use.
func held() uint64 {
	var m runtime.MemStats
	runtime.GC()
	runtime.ReadMemStats(&m)
	return m.HeapAlloc
}

// TestTakenIsNotKept: what is under way no more holds no memory, whichever end was taken first.
func TestTakenIsNotKept(t *testing.T) {
	for _, next := range []func(many int) int{func(many int) int { return many - 1 }, func(int) int { return 0 }} {
		n := begun(t, 2).n
		in := make([]byte, api.MaxPacket)
		before := held()
		for range 4000 {
			n.Send(0, 1, in)
		}
		full := held()
		for many := n.Len(); many > 0; many-- {
			n.Take(next(many))
		}
		if after := held(); full < before+4000*api.MaxPacket || after > before+1<<20 {
			t.Errorf("a net holds %d bytes ahead of 4000 messages, %d with them, %d behind them", before, full, after)
		}
		runtime.KeepAlive(n)
	}
}
