package cache_test

import (
	"reflect"
	"slices"
	"testing"

	"lagoon/api"
	"lagoon/cache"
	"lagoon/txn"
)

// lists calls f for each list in a value, the outer ones first.
func lists(v reflect.Value, f func(l reflect.Value)) {
	switch v.Kind() {
	case reflect.Slice:
		f(v)
		for i := range v.Len() {
			lists(v.Index(i), f)
		}
	case reflect.Struct:
		for i := range v.NumField() {
			lists(v.Field(i), f)
		}
	case reflect.Pointer:
		lists(v.Elem(), f)
	}
}

// roomy lays each list of what p points to anew, with spare room behind it that is filled.
func roomy(p any) {
	lists(reflect.ValueOf(p), func(l reflect.Value) {
		if l.Len() == 0 {
			return
		}
		wide := reflect.MakeSlice(l.Type(), 0, l.Len()+2)
		wide = reflect.AppendSlice(wide, l)
		wide = reflect.Append(wide, l.Index(0), l.Index(0))
		l.Set(wide.Slice3(0, l.Len(), l.Len()+2))
	})
}

// spoil writes over each list of what p points to, its spare room too.
func spoil(p any) {
	var all []reflect.Value
	lists(reflect.ValueOf(p), func(l reflect.Value) { all = append(all, l.Slice(0, l.Cap())) })
	for _, l := range slices.Backward(all) {
		for i := range l.Len() {
			l.Index(i).SetZero()
		}
	}
}

// rooms tells each list of what p points to, up to the end of its spare room.
func rooms(p any) []any {
	var out []any
	lists(reflect.ValueOf(p), func(l reflect.Value) {
		wide := reflect.MakeSlice(l.Type(), l.Cap(), l.Cap())
		reflect.Copy(wide, l.Slice(0, l.Cap()))
		out = append(out, wide.Interface())
	})
	return out
}

// TestHandedInStays: lists, what is in them, and their spare room; and they may be written over.
func TestHandedInStays(t *testing.T) {
	all := rising(7)
	for _, most := range []int{0, 1, 3, 7, api.MaxCache} {
		l := riches(all...)
		roomy(&l)
		before := rooms(&l)
		c, e := cache.NewTxns(most, l)
		if e != api.OK || !reflect.DeepEqual(rooms(&l), before) {
			t.Errorf("R5: NewTxns(%d) has changed its list: %d", most, e)
		}
		spoil(&l)
		has(t, "R5: NewTxns keeps its list", c, lastOf(all, most)...)

		one := rich(z(9, 1))
		roomy(&one)
		before = rooms(&one)
		if e := c.Add(one); e != api.OK || !reflect.DeepEqual(rooms(&one), before) {
			t.Errorf("R5: Add has changed its transaction: %d", e)
		}
		if e := c.Add(one); (e == api.ErrOrder) != (most > 0) || !reflect.DeepEqual(rooms(&one), before) {
			t.Errorf("R5: Add has changed a transaction that it refused: %d", e)
		}
		spoil(&one)
		has(t, "R5: Add keeps its transaction", c, lastOf(append(slices.Clone(all), z(9, 1)), most)...)
	}
}

// TestRefusedStays: a list of which there is no cache.
func TestRefusedStays(t *testing.T) {
	l := riches(z(1, 2), z(1, 1))
	roomy(&l)
	before := rooms(&l)
	cache.NewTxns(2, l)
	cache.NewTxns(-1, l)
	if !reflect.DeepEqual(rooms(&l), before) {
		t.Error("R5: NewTxns has changed a list that it refused")
	}
}

// TestSpareRoomIsNotRead: transactions behind a list's end are none of it.
func TestSpareRoomIsNotRead(t *testing.T) {
	l := riches(z(1, 1), z(1, 2), z(1, 1))
	c, e := cache.NewTxns(4, l[:2])
	if e != api.OK {
		t.Fatalf("P13.4: with spare room: %d", e)
	}
	has(t, "P13.4: with spare room", c, z(1, 1), z(1, 2))
}

// TestAnswersAreNew: what Behind answers is written over, its spare room too; the cache and other answers stay.
func TestAnswersAreNew(t *testing.T) {
	all := rising(7)
	for _, most := range []int{1, 3, 7, api.MaxCache} {
		c := txns(t, most, all...)
		first, _ := c.Behind(api.Zxid{}, api.Zxid{})
		second, _ := c.Behind(api.Zxid{}, api.Zxid{})
		spoil(&first)
		has(t, "R5: the cache's own were answered", c, lastOf(all, most)...)
		if !slices.EqualFunc(second, riches(lastOf(all, most)...), txn.Same) {
			t.Errorf("R5: two answers share memory: %v", second)
		}
		_ = append(second, rich(z(9, 9)))
		third, _ := c.Behind(api.Zxid{}, api.Zxid{})
		if !slices.EqualFunc(third, riches(lastOf(all, most)...), txn.Same) {
			t.Errorf("R5: an answer grew into the next one: %v", third)
		}
	}
}

// TestAnswersListsAreTheirOwn: no two lists of one answer share memory, their spare room neither.
func TestAnswersListsAreTheirOwn(t *testing.T) {
	c := txns(t, 4, rising(7)...)
	l, _ := c.Behind(api.Zxid{}, api.Zxid{})
	want := riches(lastOf(rising(7), 4)...)
	for i := range l {
		if !txn.Same(l[i], want[i]) {
			t.Errorf("R5: %v was written over by those ahead of it", l[i])
		}
		spoil(&l[i])
	}
}

// TestSharedIn: transactions that share their lists where they are handed in share none where they are told.
func TestSharedIn(t *testing.T) {
	data := []byte{1, 2}
	of := func(at api.Zxid) api.Txn {
		return api.Txn{Zxid: at, Req: api.Request{Kind: api.Create, Path: "/a", Data: data}}
	}
	c, _ := cache.NewTxns(3, []api.Txn{of(z(1, 1)), of(z(1, 2))})
	c.Add(of(z(1, 3)))
	l, _ := c.Behind(api.Zxid{}, api.Zxid{})
	for i := range l {
		if !slices.Equal(l[i].Req.Data, []byte{1, 2}) {
			t.Errorf("R5: %v", l[i])
		}
		l[i].Req.Data[0] = 9
	}
	if data[0] != 1 {
		t.Errorf("R5: what was handed in: %v", data)
	}
}

// TestEmptyIsNil: lists without elements are the same, nil or not, within transactions too.
func TestEmptyIsNil(t *testing.T) {
	for _, l := range [][]api.Txn{nil, {}, riches(z(1, 1))[:0]} {
		c, e := cache.NewTxns(2, l)
		if e != api.OK {
			t.Fatalf("R4: NewTxns: %d", e)
		}
		has(t, "R4: of none", c)
	}
	bare := api.Txn{Zxid: z(1, 1), Req: api.Request{Kind: api.Multi}}
	empty := bare
	empty.Req.Data, empty.Req.Acl, empty.Req.Who, empty.Req.Ops = []byte{}, []api.Entry{}, []api.Id{}, []api.Request{}
	c, _ := cache.NewTxns(1, []api.Txn{empty})
	if l, is := c.Behind(api.Zxid{}, api.Zxid{}); !is || len(l) != 1 || !txn.Same(l[0], bare) {
		t.Errorf("R4: within a transaction: %v, %t", l, is)
	}
}
