package packet_test

import (
	"bytes"
	"reflect"
	"testing"

	"lagoon/api"
	"lagoon/packet"
)

// lists calls f for each list in a value, the outer ones first.
func lists(v reflect.Value, f func(l reflect.Value)) {
	switch v.Kind() {
	case reflect.Slice:
		f(v)
		for i := range v.Len() {
			lists(v.Index(i), f)
		}
	case reflect.Struct:
		for i := range v.NumField() {
			lists(v.Field(i), f)
		}
	case reflect.Pointer:
		lists(v.Elem(), f)
	}
}

// roomy lays each list of a packet anew, with spare room behind it that is filled.
func roomy(p *api.Packet) {
	lists(reflect.ValueOf(p), func(l reflect.Value) {
		if l.Len() == 0 {
			return
		}
		wide := reflect.MakeSlice(l.Type(), 0, l.Len()+2)
		wide = reflect.AppendSlice(wide, l)
		wide = reflect.Append(wide, l.Index(0), l.Index(0))
		l.Set(wide.Slice3(0, l.Len(), l.Len()+2))
	})
}

// rooms tells each list of a packet, up to the end of its spare room.
func rooms(p *api.Packet) []any {
	var out []any
	lists(reflect.ValueOf(p), func(l reflect.Value) {
		wide := reflect.MakeSlice(l.Type(), l.Cap(), l.Cap())
		reflect.Copy(wide, l.Slice(0, l.Cap()))
		out = append(out, wide.Interface())
	})
	return out
}

// over writes over a list and all the room that it has.
func over(b []byte) {
	b = b[:cap(b)]
	for i := range b {
		b[i] = 0xEE
	}
}

// wrong are packets that may not be, with lists in what is named and in what is not.
func wrong() []api.Packet {
	var out []api.Packet
	for _, kind := range kinds() {
		p := some(kind)
		p.Txn, p.Bytes = longest(z(1, 1), 1), []byte{1, 2, 3}
		out = append(out, p)
	}
	return out
}

// TestHandedInStays: what Check and Write are handed, each list of it, and its spare room; whatever they answer.
func TestHandedInStays(t *testing.T) {
	for _, p := range append(all(), wrong()...) {
		roomy(&p)
		before := rooms(&p)
		packet.Check(p)
		packet.Write(p)
		if !reflect.DeepEqual(rooms(&p), before) {
			t.Errorf("R5: kind %d: what was handed in is changed", p.Kind)
		}
	}
}

// TestBytesHandedInStay: what Read is handed, and its spare room, whatever it answers.
func TestBytesHandedInStay(t *testing.T) {
	for _, p := range all() {
		b := laid(p)
		for _, text := range [][]byte{b, b[:len(b)-1], b[1:], b[:3], append(bytes.Clone(b), 0), summed(append(b[4:len(b):len(b)], 7))} {
			wide := append(bytes.Clone(text), 1, 2, 3)
			packet.Read(wide[:len(text)])
			if !bytes.Equal(wide[:len(text)], text) || !bytes.Equal(wide[len(text):], []byte{1, 2, 3}) {
				t.Errorf("R5: kind %d: the bytes handed in are changed", p.Kind)
			}
		}
	}
}

// TestSpareRoomIsNotRead: bytes behind the end are none of the text's.
func TestSpareRoomIsNotRead(t *testing.T) {
	for _, p := range all() {
		b := append(laid(p), laid(info())...)
		n := len(laid(p))
		reads(t, "with spare room", b[:n], p)
		unread(t, "all but a byte, that stands behind the end", b[:n-1])
	}
	p := some(api.PChunk)
	p.Bytes = []byte{1, 2, 3, 4, 5, 6}[:4]
	checks(t, "a Chunk with spare room", p, true)
	p.Bytes = make([]byte, 4096, 5000)
	checks(t, "a Chunk of 4096 with spare room", p, true)
	p.Bytes = make([]byte, 0, 9)
	checks(t, "a Chunk that has spare room alone", p, false)
}

// TestWriteGivesItsOwn: two answers share nothing, and nothing with what was handed in.
func TestWriteGivesItsOwn(t *testing.T) {
	for _, p := range all() {
		want := laid(p)
		a, _ := packet.Write(p)
		b, _ := packet.Write(p)
		over(a)
		if !bytes.Equal(b, want) || !bytes.Equal(laid(p), want) {
			t.Errorf("R5: kind %d: what Write answers is shared", p.Kind)
		}
		over(p.Bytes)
		over(p.Txn.Req.Data)
		for _, op := range p.Txn.Req.Ops {
			over(op.Data)
		}
		if !bytes.Equal(b, want) {
			t.Errorf("R5: kind %d: what Write answers is its argument's", p.Kind)
		}
	}
}

// TestReadGivesItsOwn: what Read answers lies neither in the bytes that were read nor in another answer, nor one list of it in another's spare room.
func TestReadGivesItsOwn(t *testing.T) {
	for _, want := range all() {
		b := laid(want)
		p, _ := packet.Read(b)
		q, _ := packet.Read(b)
		over(b)
		if !same(p, want) || !same(q, want) {
			t.Errorf("R5: kind %d: what Read answers is its argument's", want.Kind)
		}
		lists(reflect.ValueOf(&p), func(l reflect.Value) {
			whole := l.Slice(0, l.Cap())
			kept := reflect.MakeSlice(l.Type(), l.Cap(), l.Cap())
			reflect.Copy(kept, whole)
			before := bytes.Clone(laid(p)) // all but this list must stay
			for i := l.Len(); i < whole.Len(); i++ {
				whole.Index(i).SetZero()
			}
			if !bytes.Equal(laid(p), before) {
				t.Errorf("R5: kind %d: a list's spare room is another list", want.Kind)
			}
			reflect.Copy(whole, kept)
		})
		over(p.Bytes)
		for i := range p.Txn.Req.Ops {
			over(p.Txn.Req.Ops[i].Data)
			p.Txn.Req.Ops[i] = api.Request{}
		}
		if !same(q, want) {
			t.Errorf("R5: kind %d: two answers of Read share memory", want.Kind)
		}
	}
}

// TestBytesAreTheirOwn: written over, a Chunk's bytes change nothing else of the answer.
func TestBytesAreTheirOwn(t *testing.T) {
	p, _ := packet.Read(laid(some(api.PChunk)))
	grown := append(p.Bytes, 1, 2, 3)
	over(p.Bytes)
	want := some(api.PChunk)
	want.Bytes = bytes.Repeat([]byte{0xEE}, 5)
	if !same(p, want) || len(grown) != 8 {
		t.Errorf("R5: %+v", p)
	}
}

// TestEmptyIsNil: lists without elements are the same, nil or not, where they are named and where they are not.
func TestEmptyIsNil(t *testing.T) {
	empty := api.Request{Data: []byte{}, Acl: []api.Entry{}, Who: []api.Id{}, Ops: []api.Request{}}
	for _, want := range all() {
		p := want
		if len(p.Bytes) == 0 {
			p.Bytes = make([]byte, 0, 7)
		}
		if names(p.Kind, "Txn") && len(p.Txn.Req.Ops) == 0 {
			p.Txn.Req.Data, p.Txn.Req.Acl, p.Txn.Req.Who, p.Txn.Req.Ops = empty.Data, empty.Acl, empty.Who, empty.Ops
		}
		if !names(p.Kind, "Txn") {
			p.Txn.Req = empty
		}
		b, e := packet.Write(p)
		if packet.Check(p) != api.OK || e != api.OK || !bytes.Equal(b, laid(want)) {
			t.Errorf("R4: kind %d: % x, %d", p.Kind, b, e)
		}
	}
	p := some(api.PChunk)
	p.Bytes = []byte{}
	checks(t, "R4: a Chunk of no bytes", p, false)
	unread(t, "R4: no bytes", []byte{})
	unread(t, "R4: no bytes, with spare room", infoBytes()[:0])
}

// TestAgain: asked again, with other questions between, each tells the same.
func TestAgain(t *testing.T) {
	for range 3 {
		for _, p := range all() {
			checks(t, "R6: again", p, true)
		}
		for _, p := range wrong() {
			refuses(t, "R6: again", p)
		}
		unread(t, "R6: again", infoBytes()[:16])
	}
}
