package choose_test

import (
	"math"
	"reflect"
	"testing"

	"lagoon/api"
	"lagoon/choose"
)

// lists calls f for each list in a value, the outer ones first.
func lists(v reflect.Value, f func(l reflect.Value)) {
	switch v.Kind() {
	case reflect.Slice:
		f(v)
		for i := range v.Len() {
			lists(v.Index(i), f)
		}
	case reflect.Struct:
		for i := range v.NumField() {
			lists(v.Field(i), f)
		}
	case reflect.Pointer:
		lists(v.Elem(), f)
	}
}

// roomy lays each list of what p points to anew, with spare room behind it that is filled.
func roomy(p any) {
	lists(reflect.ValueOf(p), func(l reflect.Value) {
		if l.Len() == 0 {
			return
		}
		wide := reflect.MakeSlice(l.Type(), 0, l.Len()+2)
		wide = reflect.AppendSlice(wide, l)
		wide = reflect.Append(wide, l.Index(0), l.Index(0))
		l.Set(wide.Slice3(0, l.Len(), l.Len()+2))
	})
}

// rooms tells each list of what p points to, up to the end of its spare room.
func rooms(p any) []any {
	var out []any
	lists(reflect.ValueOf(p), func(l reflect.Value) {
		wide := reflect.MakeSlice(l.Type(), l.Cap(), l.Cap())
		reflect.Copy(wide, l.Slice(0, l.Cap()))
		out = append(out, wide.Interface())
	})
	return out
}

// rich is a transaction with something in each list that it may have, and, if it is to be refused, in each other one.
func rich(at api.Zxid, refuse bool) api.Txn {
	op := api.Request{
		Kind: api.Create, Path: "/op", Data: []byte{1, 2},
		Acl: []api.Entry{{Perms: 31, Who: api.Id{Scheme: "world", Name: "anyone"}}, {Perms: 1}},
	}
	x := api.Txn{
		Zxid: at,
		From: api.Origin{Server: 3, Boot: at.Epoch, Number: int64(at.N)},
		Req: api.Request{
			Kind: api.Multi, Session: 7,
			Who: []api.Id{{Scheme: "name", Name: "ann"}, {Scheme: "ip", Name: "10.1.2.3"}},
			Ops: []api.Request{op, {Kind: api.Check, Path: "/b", Version: 5}},
		},
	}
	if refuse {
		x.Req.Data = []byte{3, 4}
		x.Req.Acl = []api.Entry{{Perms: 2}}
		x.Req.Ops[1].Ops = []api.Request{op}
	}
	return x
}

// riches are transactions of these zxids, every third one refused.
func riches(l ...api.Zxid) []api.Txn {
	var out []api.Txn
	for i, at := range l {
		out = append(out, rich(at, i%3 == 2))
	}
	return out
}

// stays looks that a call leaves a log as it was, each list of it, and its spare room.
func stays(t *testing.T, what string, l []api.Txn, call func(l []api.Txn)) {
	t.Helper()
	roomy(&l)
	before := rooms(&l)
	call(l)
	if !reflect.DeepEqual(rooms(&l), before) {
		t.Errorf("P14.3: %s has changed what was handed in", what)
	}
}

// TestHandedInStays: whatever the answer is, errors too.
func TestHandedInStays(t *testing.T) {
	all := rising(z(1, 1), 7)
	stays(t, "Size", riches(all...), func(l []api.Txn) { choose.Size(l) })
	for _, peer := range around(append(all, z(1, 1))...) {
		for _, factor := range []float64{0, 1, math.NaN()} {
			for _, cached := range []int{-1, 0, 3, 7, 8} {
				stays(t, "Way", riches(all...), func(l []api.Txn) { choose.Way(peer, z(1, 1), l, cached, 1000, factor) })
				stays(t, "Way that refuses", riches(all[1], all[0]), func(l []api.Txn) { choose.Way(peer, z(1, 1), l, cached, 1000, factor) })
			}
		}
	}
}

// TestSpareRoomIsNotRead: transactions behind a list's end are none of it.
func TestSpareRoomIsNotRead(t *testing.T) {
	for n := range 5 {
		l := logOf(t, append(rising(z(0, 0), n), z(1, 1), z(99, 9))...)[:n]
		sizes(t, "P14.2: spare room", 50*n, l...)
		for _, peer := range around(append(rising(z(0, 0), n), z(99, 9))...) {
			chooses(t, "P14.1: spare room", chosen(peer, z(0, 0), l, 0, 100, 1), peer, z(0, 0), l, 0, 100, 1)
		}
		refuses(t, "P14.1: spare room is not at hand", z(0, 0), z(0, 0), l, n+1, 100, 1)
	}
}

// TestEmptyIsNil: lists without elements are the same, nil or not, within transactions too.
func TestEmptyIsNil(t *testing.T) {
	for _, l := range [][]api.Txn{nil, {}, riches(z(1, 1))[:0]} {
		if n := choose.Size(l); n != 0 {
			t.Errorf("R4: Size of none: %d", n)
		}
		chooses(t, "R4: of none", sent(api.ByDiff, z(1, 1), true), z(1, 1), z(1, 1), l, 0, 0, 0)
		chooses(t, "R4: of none", sent(api.ByTrunc, z(1, 1), true), z(1, 2), z(1, 1), l, 0, 0, 0)
		refuses(t, "R4: of none", z(1, 1), z(1, 1), l, 1, 0, 0)
	}
	bare := api.Txn{Zxid: z(1, 1), Req: api.Request{Kind: api.Open, Timeout: 9}}
	empty := bare
	empty.Req.Data, empty.Req.Acl, empty.Req.Who, empty.Req.Ops = []byte{}, []api.Entry{}, []api.Id{}, []api.Request{}
	sizes(t, "R4: within a transaction", 26, bare)
	sizes(t, "R4: within a transaction", 26, empty)
}

// TestAgain: asked again, with other questions between, it tells the same.
func TestAgain(t *testing.T) {
	l := exampleLog(t)
	for range 3 {
		chooses(t, "R6: again", bySnap(), z(1, 1), z(0, 0), l, 1, 100, 0.5)
		sizes(t, "R6: again", 150, l...)
		chooses(t, "R6: again", sent(api.ByTruncDiff, z(1, 2), true), z(1, 9), z(0, 0), l, 1, 100, 0.5)
		refuses(t, "R6: again", z(1, 1), z(0, 0), l, 4, 100, 0.5)
	}
}
