package store_test

import (
	"reflect"
	"slices"
	"testing"

	"lagoon/api"
	"lagoon/store"
	"lagoon/txn"
	"lagoon/ztree"
)

// noStores are stores that Open did not make.
func noStores() []*store.Store { return []*store.Store{nil, {}, new(store.Store)} }

// TestNoStore: nothing can be asked of such a one, and nothing is told.
func TestNoStore(t *testing.T) {
	for _, s := range noStores() {
		answers(t, "R3: Accept", s.Accept(1), api.ErrArg)
		answers(t, "R3: Accept", s.Accept(0), api.ErrArg)
		answers(t, "R3: Lead", s.Lead(1), api.ErrArg)
		answers(t, "R3: Append", s.Append(creates(z("1.1"))), api.ErrArg)
		answers(t, "R3: Append", s.Append(api.Txn{}), api.ErrArg)
		answers(t, "R3: Take", s.Take(api.Brought{}), api.ErrArg)
		answers(t, "R3: Take", s.Take(api.Brought{Whole: true, Image: imageOf("1.1")}), api.ErrArg)
		answers(t, "R3: Snapshot", s.Snapshot(ztree.New()), api.ErrArg)
		answers(t, "R3: Snapshot", s.Snapshot(nil), api.ErrArg)
		if s.Durable() != (api.Durable{}) || len(s.Log()) != 0 || s.Tree() != nil {
			t.Errorf("P12.7: no store tells %v, %v, %v", s.Durable(), s.Log(), s.Tree())
		}
	}
	named := &store.Store{}
	named.Boot, named.Accepted = 7, 8
	if named.Durable() != (api.Durable{}) {
		t.Errorf("P12.7: a plain store tells %v", named.Durable())
	}
}

// lists calls f for each list in a value, the outer ones first.
func lists(v reflect.Value, f func(l reflect.Value)) {
	switch v.Kind() {
	case reflect.Slice:
		f(v)
		for i := range v.Len() {
			lists(v.Index(i), f)
		}
	case reflect.Struct:
		for i := range v.NumField() {
			lists(v.Field(i), f)
		}
	case reflect.Pointer:
		lists(v.Elem(), f)
	}
}

// roomy lays each list of what p points to anew, with spare room behind it that is filled.
func roomy(p any) {
	lists(reflect.ValueOf(p), func(l reflect.Value) {
		if l.Len() == 0 {
			return
		}
		wide := reflect.MakeSlice(l.Type(), 0, l.Len()+2)
		wide = reflect.AppendSlice(wide, l)
		wide = reflect.Append(wide, l.Index(0), l.Index(0))
		l.Set(wide.Slice3(0, l.Len(), l.Len()+2))
	})
}

// spoil writes over each list of what p points to, its spare room too.
func spoil(p any) {
	var all []reflect.Value
	lists(reflect.ValueOf(p), func(l reflect.Value) { all = append(all, l.Slice(0, l.Cap())) })
	for _, l := range slices.Backward(all) {
		for i := range l.Len() {
			l.Index(i).SetZero()
		}
	}
}

// room is all that the lists of what p points to hold, to the ends of their spare room.
func room(p any) []any {
	var out []any
	lists(reflect.ValueOf(p), func(l reflect.Value) { out = append(out, l.Len(), l.Slice(0, l.Cap()).Interface()) })
	return out
}

// rich is a transaction with all kinds of lists.
func rich(at string) api.Txn {
	entry := api.Entry{Perms: 3, Who: api.Id{Scheme: "name", Name: "ann"}}
	op := api.Request{Kind: api.Create, Path: "/m", Data: []byte("data"), Acl: []api.Entry{entry, entry}}
	return api.Txn{Zxid: z(at), Req: api.Request{Kind: api.Multi, Who: []api.Id{entry.Who}, Ops: []api.Request{op, op}}}
}

// brought are two things to take, each with filled spare room in each list; each call gives them anew.
func brought() []api.Brought {
	out := []api.Brought{
		{Epoch: 2, Cut: z("1.2"), Txns: []api.Txn{rich("2.1"), rich("2.2"), rich("2.3")}},
		{Epoch: 2, Whole: true, Image: imageOf("1.1"), Txns: []api.Txn{rich("2.1"), rich("2.2")}},
	}
	for i := range out {
		roomy(&out[i])
	}
	return out
}

// owner is the server that these tests begin with.
func owner() server {
	return served(api.Manifest{Boot: 1, Accepted: 2, Current: 1, Log: 1}, "", "1.1 1.2 1.3")
}

// TestHandedInStays: what is handed in, and its spare room, is not changed, also by a call that is refused.
func TestHandedInStays(t *testing.T) {
	for i := range brought() {
		for _, epoch := range []uint32{2, 3} {
			_, s := started(t, owner())
			b, same := brought()[i], brought()[i]
			b.Epoch, same.Epoch = epoch, epoch
			s.Take(b)
			if !reflect.DeepEqual(b, same) || !reflect.DeepEqual(room(&b), room(&same)) {
				t.Errorf("R5: Take with epoch %d has changed what it was handed", epoch)
			}
		}
	}
	for _, at := range []string{"2.1", "1.1"} {
		_, s := started(t, owner())
		x, same := rich(at), rich(at)
		roomy(&x)
		roomy(&same)
		s.Append(x)
		if !reflect.DeepEqual(room(&x), room(&same)) || !txn.Same(x, same) {
			t.Errorf("R5: Append of %s has changed what it was handed", at)
		}
	}
	for _, text := range []string{"1.1 1.2", "1.1 1.9"} {
		_, s := started(t, owner())
		tree := treeOf(text)
		s.Snapshot(tree)
		if !ztree.Same(tree, treeOf(text)) {
			t.Errorf("R5: Snapshot has changed the tree of %s", text)
		}
	}
}

// TestNotKept: what was handed in is written over behind the call.
func TestNotKept(t *testing.T) {
	for i := range brought() {
		d, s := started(t, owner())
		b := brought()[i]
		c := owner().booted().take(brought()[i])
		answers(t, c.what, s.Take(b), api.OK)
		spoil(&b)
		agrees(t, "R5: written over behind a Take", d, s, c.after)
	}
	d, s := started(t, owner())
	x := rich("2.1")
	c := owner().booted().append(rich("2.1"))
	answers(t, c.what, s.Append(x), api.OK)
	spoil(&x)
	agrees(t, "R5: written over behind an Append", d, s, c.after)

	d, s = started(t, owner())
	tree := treeOf("1.1 1.2")
	c = owner().booted().snapshot(treeOf("1.1 1.2"))
	answers(t, c.what, s.Snapshot(tree), api.OK)
	tree.Apply(creates(z("7.1")))
	agrees(t, "R5: a tree that goes on behind a Snapshot", d, s, c.after)
}

// TestAnswersAreNew: what is answered is written over, its spare room too, or goes on; other answers and the store stay.
func TestAnswersAreNew(t *testing.T) {
	was := owner()
	was.segments = append(was.segments, []api.Txn{rich("2.1"), rich("2.2")})
	d, s := started(t, was)
	for _, c := range []step{was.booted().append(rich("2.3")), was.booted().append(rich("2.3")).after.snapshot(was.upTo(z("1.2")))} {
		answers(t, c.what, c.call(s), api.OK)
		first, other := s.Log(), s.Log()
		spoil(&first)
		if !slices.EqualFunc(other, c.after.log(), txn.Same) {
			t.Error("R5: two answers of Log share memory")
		}
		_ = append(s.Log()[:1], rich("9.9"))
		one, two := s.Tree(), s.Tree()
		one.Apply(creates(z("9.1")))
		if one == two || !ztree.Same(two, c.after.tree) {
			t.Error("R5: two answers of Tree are one")
		}
		agrees(t, "R5: answers that were written over", d, s, c.after)
	}
	opened := opened(t, d, 2)
	first := opened.Log()
	spoil(&first)
	opened.Tree().Apply(creates(z("9.1")))
	tells(t, "R5: behind an Open", opened, was.booted().append(rich("2.3")).after.snapshot(was.upTo(z("1.2"))).after.booted())
}

// TestStoresKnowNothing: each keeps its own disk.
func TestStoresKnowNothing(t *testing.T) {
	d, s := started(t, owner())
	other, x := started(t, owner())
	for _, c := range steps(owner().booted()) {
		_, fresh := started(t, owner())
		answers(t, c.what, c.call(fresh), api.OK)
	}
	agrees(t, "R6: the first", d, s, owner().booted())
	c := owner().booted().take(brought()[0])
	answers(t, c.what, c.call(s), api.OK)
	agrees(t, "R6: the first", d, s, c.after)
	agrees(t, "R6: the second", other, x, owner().booted())
}
