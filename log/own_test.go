package log_test

import (
	"bytes"
	"reflect"
	"slices"
	"testing"

	"lagoon/api"
	"lagoon/log"
	"lagoon/txn"
)

// lists calls f for each list in a value, the outer ones first.
func lists(v reflect.Value, f func(l reflect.Value)) {
	switch v.Kind() {
	case reflect.Slice:
		f(v)
		for i := range v.Len() {
			lists(v.Index(i), f)
		}
	case reflect.Struct:
		for i := range v.NumField() {
			lists(v.Field(i), f)
		}
	case reflect.Pointer:
		lists(v.Elem(), f)
	}
}

// roomy lays each list of what p points to anew, with spare room behind it that is filled.
func roomy(p any) {
	lists(reflect.ValueOf(p), func(l reflect.Value) {
		if l.Len() == 0 {
			return
		}
		wide := reflect.MakeSlice(l.Type(), 0, l.Len()+2)
		wide = reflect.AppendSlice(wide, l)
		wide = reflect.Append(wide, l.Index(0), l.Index(0))
		l.Set(wide.Slice3(0, l.Len(), l.Len()+2))
	})
}

// spoil writes over each list of what p points to, its spare room too.
func spoil(p any) {
	var all []reflect.Value
	lists(reflect.ValueOf(p), func(l reflect.Value) { all = append(all, l.Slice(0, l.Cap())) })
	for _, l := range slices.Backward(all) {
		for i := range l.Len() {
			l.Index(i).SetZero()
		}
	}
}

// room is all that the lists of what p points to hold, to the ends of their spare room.
func room(p any) []any {
	var out []any
	lists(reflect.ValueOf(p), func(l reflect.Value) { out = append(out, l.Len(), l.Slice(0, l.Cap()).Interface()) })
	return out
}

// rich are transactions with all kinds of lists, each with filled spare room.
func rich() []api.Txn {
	l := []api.Txn{widest(1), {Zxid: z(2), Req: api.Request{Kind: api.SetData, Path: "/a", Data: []byte("data"), Who: []api.Id{{Scheme: "name", Name: "ann"}}}}, widest(3)}
	roomy(&l)
	return l
}

func TestHandedInStays(t *testing.T) {
	l, d := rich(), diskOf(t)
	made := created(t, d, 5, 2, l)
	if !reflect.DeepEqual(room(&l), room(ptr(rich()))) {
		t.Error("R5: Create has changed what it was handed")
	}
	next := rich()[0]
	next.Zxid = z(4)
	same := rich()[0]
	same.Zxid = z(4)
	answers(t, "P10.4", made.Append(next), api.OK)
	if !reflect.DeepEqual(room(&next), room(&same)) || !txn.Same(next, same) {
		t.Error("R5: Append has changed what it was handed")
	}
	refusedToo := append(rich(), api.Txn{})
	_, e := log.Create(d, 6, 2, refusedToo)
	answers(t, "P10.2", e, api.ErrTxn)
	if !slices.EqualFunc(refusedToo, append(rich(), api.Txn{}), txn.Same) {
		t.Error("R5: a Create that is refused has changed what it was handed")
	}
}

func ptr[T any](v T) *T { return &v }

// TestNotKept: what was handed in is written over behind the call.
func TestNotKept(t *testing.T) {
	l, d := rich(), diskOf(t)
	made := created(t, d, 5, 2, l)
	next := rich()[0]
	next.Zxid = z(4)
	want := append(rich(), txn.Clone(next))
	answers(t, "P10.4", made.Append(next), api.OK)
	before := d.Image()
	spoil(&l)
	spoil(&next)
	tells(t, "R5: written over behind the call", made, 5, 2, want)
	holds(t, "R5: written over behind the call", d, before...)
	tells(t, "R5: written over behind the call", opened(t, d, 5, 2, api.Zxid{}), 5, 2, want)
}

// TestAnswersAreNew: what is answered is written over, its spare room too; another answer, the log and the disk stay.
func TestAnswersAreNew(t *testing.T) {
	d := diskOf(t)
	made := created(t, d, 5, 1, rich())
	for what, l := range map[string]*log.Log{"created": made, "opened": opened(t, d, 5, 1, api.Zxid{})} {
		first, names := l.All(), l.Names()
		before := d.Image()
		other, otherNames := l.All(), l.Names()
		spoil(&first)
		spoil(&names)
		if !slices.EqualFunc(other, rich(), txn.Same) || !slices.Equal(otherNames, []string{"log.5.1", "log.5.2", "log.5.3"}) {
			t.Errorf("R5: %s: two answers share memory", what)
		}
		tells(t, "R5: "+what, l, 5, 3, rich())
		_ = append(l.All()[:1], open(9))
		tells(t, "R5: "+what, l, 5, 3, rich())
		holds(t, "R5: "+what, d, before...)
	}
}

// TestAnswersShareNothing: no two lists of one answer share memory, also where those that were handed in did.
func TestAnswersShareNothing(t *testing.T) {
	data := []byte("data")
	l := []api.Txn{{Zxid: z(1), Req: api.Request{Kind: api.Create, Path: "/a", Data: data}}, {Zxid: z(2), Req: api.Request{Kind: api.Create, Path: "/b", Data: data}}}
	made := created(t, diskOf(t), 5, 2, l)
	answers(t, "P10.4", made.Append(api.Txn{Zxid: z(3), Req: api.Request{Kind: api.Create, Path: "/c", Data: data}}), api.OK)
	all := made.All()
	for i := range all {
		b := all[i].Req.Data
		for j := range b[:cap(b)] {
			b[:cap(b)][j] = byte(i)
		}
	}
	for i := range all {
		if !bytes.Equal(all[i].Req.Data, bytes.Repeat([]byte{byte(i)}, len(data))) {
			t.Errorf("R5: transaction %d shares memory with another one: %v", i, all[i].Req.Data)
		}
	}
}

// TestDiskIsKept: the log writes to the disk that it was handed, and no other.
func TestDiskIsKept(t *testing.T) {
	d, other := diskOf(t), diskOf(t)
	l := created(t, d, 5, 2, nil)
	created(t, other, 5, 2, nil)
	answers(t, "P10.4", l.Append(open(1)), api.OK)
	holds(t, "P10.5: the disk is kept", d, filesOf(t, 5, opens(1, 1))...)
	holds(t, "R6: another disk", other, file("log.5.1"))
	m := opened(t, d, 5, 2, api.Zxid{})
	answers(t, "P10.4", m.Append(open(2)), api.OK)
	holds(t, "P10.5: the disk is kept", d, filesOf(t, 5, opens(1, 2))...)
}
