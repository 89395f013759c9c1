package stream_test

import (
	"cmp"
	"reflect"
	"slices"
	"testing"

	"lagoon/api"
	"lagoon/txn"
)

// lists calls f for each list in a value, the outer ones first.
func lists(v reflect.Value, f func(l reflect.Value)) {
	switch v.Kind() {
	case reflect.Slice:
		f(v)
		for i := range v.Len() {
			lists(v.Index(i), f)
		}
	case reflect.Struct:
		for i := range v.NumField() {
			lists(v.Field(i), f)
		}
	case reflect.Pointer:
		lists(v.Elem(), f)
	}
}

// roomy lays each list of what p points to anew, with spare room behind it that is filled; those without elements too.
func roomy(p any) {
	lists(reflect.ValueOf(p), func(l reflect.Value) {
		wide := reflect.MakeSlice(l.Type(), l.Len()+2, l.Len()+2)
		reflect.Copy(wide, l)
		if l.Len() > 0 {
			wide.Index(l.Len()).Set(l.Index(0))
		}
		l.Set(wide.Slice3(0, l.Len(), l.Len()+2))
	})
}

// rooms tells each list of what p points to, up to the end of its spare room.
func rooms(p any) []any {
	var out []any
	lists(reflect.ValueOf(p), func(l reflect.Value) {
		wide := reflect.MakeSlice(l.Type(), l.Cap(), l.Cap())
		reflect.Copy(wide, l.Slice(0, l.Cap()))
		out = append(out, wide.Interface())
	})
	return out
}

// span is the memory of a list, its spare room too.
type span struct{ from, to uintptr }

func spans(p any) []span {
	var out []span
	lists(reflect.ValueOf(p), func(l reflect.Value) {
		if n := uintptr(l.Cap()) * l.Type().Elem().Size(); n > 0 {
			out = append(out, span{l.Pointer(), l.Pointer() + n})
		}
	})
	return out
}

// apart tells whether no two of these have memory in common.
func apart(l []span) bool {
	l = slices.Clone(l)
	slices.SortFunc(l, func(a, b span) int { return cmp.Compare(a.from, b.from) })
	for i := 1; i < len(l); i++ {
		if l[i].from < l[i-1].to {
			return false
		}
	}
	return true
}

// handed are the two lists that Make is handed.
type handed struct {
	Image []byte
	L     []api.Txn
}

// open is a transaction whose lists have no elements.
func open(x api.Zxid) api.Txn {
	return api.Txn{Zxid: x, Req: api.Request{Kind: api.Open, Timeout: 9, Data: []byte{}, Acl: []api.Entry{}, Who: []api.Id{}, Ops: []api.Request{}}}
}

// filled are questions that are answered, with spare room in every list that they have.
func filled() []question {
	out := good()
	for _, way := range []int8{api.ByDiff, api.ByTruncDiff, api.BySnap} {
		q := question{by(way, z(1, 3)), nil, []api.Txn{open(z(2, 1)), rich(z(2, 2)), at(z(2, 3)), rich(z(2, 4))}, 5, 3}
		if way == api.BySnap {
			q.image = counting(8)
		}
		out = append(out, q)
	}
	for i := range out {
		h := handed{out[i].image, out[i].l}
		roomy(&h)
		out[i].image, out[i].l = h.Image, h.L
	}
	return out
}

// wrong are questions that are refused, each at another of its parts.
func wrong() []question {
	var out []question
	for _, q := range filled() {
		way, epoch, chunk, from, image := q, q, q, q, q
		way.c.Way = 5
		epoch.epoch = 0
		chunk.chunk = 4097
		from.c.From = z(1, 0)
		image.image = make([]byte, 1-min(1, len(q.image)), 9)
		out = append(out, way, epoch, chunk, from, image)
		if len(q.l) > 0 {
			rise := q
			rise.c.From = z(4, 1)
			out = append(out, rise)
		}
	}
	return out
}

// TestHandedInStays: each list of it, and its spare room; whatever the answer is.
func TestHandedInStays(t *testing.T) {
	for _, q := range append(filled(), wrong()...) {
		h := handed{q.image, q.l}
		before := rooms(&h)
		q.answered(t, name(q))
		if !reflect.DeepEqual(rooms(&h), before) {
			t.Errorf("P16.2: %s: what was handed in is changed", name(q))
		}
	}
}

// TestNewMemory: no two lists of an answer share any, spare room too, nor does one with what was handed in, nor with another answer.
func TestNewMemory(t *testing.T) {
	for _, q := range filled() {
		first := q.gives(t, name(q), q.packets()...)
		second := q.gives(t, name(q), q.packets()...)
		all := slices.Concat(spans(&handed{q.image, q.l}), spans(&first), spans(&second))
		if !apart(all) {
			t.Errorf("P16.2: %s: memory is shared", name(q))
		}
	}
}

// TestNotKept: what is done with what was handed in changes no answer, nor does what is done with one answer another.
func TestNotKept(t *testing.T) {
	for _, q := range filled() {
		want := deep(q.packets())
		first := q.gives(t, name(q), want...)
		second := q.gives(t, name(q), want...)
		h := handed{q.image, q.l}
		spoil(&h)
		if !slices.EqualFunc(first, want, same) {
			t.Errorf("P16.2: %s: the answer hangs on what was handed in", name(q))
		}
		spoil(&first)
		if !slices.EqualFunc(second, want, same) {
			t.Errorf("P16.2: %s: two answers share memory", name(q))
		}
	}
}

// deep are packets in memory of their own.
func deep(l []api.Packet) []api.Packet {
	out := slices.Clone(l)
	for i := range out {
		out[i].Bytes, out[i].Txn = slices.Clone(out[i].Bytes), txn.Clone(out[i].Txn)
	}
	return out
}

// spoil writes over everything that lies in the lists of what p points to, the inner ones first.
func spoil(p any) {
	var all []reflect.Value
	lists(reflect.ValueOf(p), func(l reflect.Value) { all = append(all, l.Slice(0, l.Cap())) })
	slices.Reverse(all)
	for _, l := range all {
		for i := range l.Len() {
			if e := l.Index(i); e.Kind() == reflect.Uint8 {
				e.SetUint(0xEE)
			} else {
				e.SetZero()
			}
		}
	}
}

// TestSpareRoomIsNotRead: what stands behind a list's end is none of it.
func TestSpareRoomIsNotRead(t *testing.T) {
	l, image := logOf(z(2, 1), z(2, 2), z(1, 1)), counting(9)
	for n := range 3 {
		q := question{by(api.ByDiff, z(1, 3)), image[:0], l[:n], 5, 2}
		q.gives(t, "an image that has spare room alone", q.packets()...)
		q = question{by(api.BySnap, z(1, 3)), image[:5], l[:n], 5, 2}
		q.gives(t, "an image with spare room", q.packets()...)
		q.chunk = 64
		q.gives(t, "an image with spare room", q.packets()...)
		q.image = image[:0]
		q.refused(t, "an image that has spare room alone")
	}
	q := question{by(api.ByTrunc, z(1, 3)), nil, l[:0], 5, 2}
	q.gives(t, "transactions in spare room alone", q.packets()...)
	q.c.Way = api.ByTruncDiff
	q.refused(t, "transactions in spare room alone")
}

// TestEmptyIsNil: lists without elements are the same, nil or not.
func TestEmptyIsNil(t *testing.T) {
	for _, image := range [][]byte{nil, {}} {
		for _, l := range [][]api.Txn{nil, {}} {
			question{by(api.ByDiff, z(1, 1)), image, l, 1, 1}.gives(t, "R4", newLeader(1, z(1, 1)))
			question{by(api.ByTrunc, z(1, 1)), image, l, 1, 1}.gives(t, "R4", trunc(z(1, 1)), newLeader(1, z(1, 1)))
			question{by(api.ByTruncDiff, z(1, 1)), image, l, 1, 1}.refused(t, "R4")
			question{by(api.BySnap, z(1, 1)), image, l, 1, 1}.refused(t, "R4")
			question{by(api.BySnap, z(1, 1)), []byte{7}, l, 1, 1}.gives(t, "R4", final(7), newLeader(1, z(1, 1)))
		}
	}
	bare := api.Txn{Zxid: z(1, 1), Req: api.Request{Kind: api.Open, Timeout: 9}}
	question{by(api.ByDiff, z(0, 0)), nil, []api.Txn{open(z(1, 1))}, 1, 1}.gives(t, "R4", diff(z(0, 0), bare), newLeader(1, z(1, 1)))
}

// TestAgain: asked again, with other questions between, it tells the same.
func TestAgain(t *testing.T) {
	for range 3 {
		for _, q := range filled() {
			q.gives(t, "R6: again", q.packets()...)
		}
		for _, q := range wrong() {
			q.refused(t, "R6: again")
		}
	}
}
