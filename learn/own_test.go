package learn_test

import (
	"cmp"
	"reflect"
	"slices"
	"testing"

	"lagoon/api"
	"lagoon/learn"
	"lagoon/txn"
)

// lists calls f for each list in a value, the outer ones first.
func lists(v reflect.Value, f func(l reflect.Value)) {
	switch v.Kind() {
	case reflect.Slice:
		f(v)
		for i := range v.Len() {
			lists(v.Index(i), f)
		}
	case reflect.Struct:
		for i := range v.NumField() {
			lists(v.Field(i), f)
		}
	case reflect.Pointer:
		lists(v.Elem(), f)
	}
}

// roomy lays each list of what p points to anew, with spare room behind it that is filled; those without elements too.
func roomy(p any) {
	lists(reflect.ValueOf(p), func(l reflect.Value) {
		wide := reflect.MakeSlice(l.Type(), l.Len()+2, l.Len()+2)
		reflect.Copy(wide, l)
		if l.Len() > 0 {
			wide.Index(l.Len()).Set(l.Index(0))
		}
		l.Set(wide.Slice3(0, l.Len(), l.Len()+2))
	})
}

// rooms tells each list of what p points to, up to the end of its spare room.
func rooms(p any) []any {
	var out []any
	lists(reflect.ValueOf(p), func(l reflect.Value) {
		wide := reflect.MakeSlice(l.Type(), l.Cap(), l.Cap())
		reflect.Copy(wide, l.Slice(0, l.Cap()))
		out = append(out, wide.Interface())
	})
	return out
}

// span is the memory of a list, its spare room too.
type span struct{ from, to uintptr }

func spans(p any) []span {
	var out []span
	lists(reflect.ValueOf(p), func(l reflect.Value) {
		if n := uintptr(l.Cap()) * l.Type().Elem().Size(); n > 0 {
			out = append(out, span{l.Pointer(), l.Pointer() + n})
		}
	})
	return out
}

// apart tells whether no two of these have memory in common.
func apart(l []span) bool {
	l = slices.Clone(l)
	slices.SortFunc(l, func(a, b span) int { return cmp.Compare(a.from, b.from) })
	for i := 1; i < len(l); i++ {
		if l[i].from < l[i-1].to {
			return false
		}
	}
	return true
}

// spoil writes over everything that lies in the lists of what p points to, the inner ones first.
func spoil(p any) {
	var all []reflect.Value
	lists(reflect.ValueOf(p), func(l reflect.Value) { all = append(all, l.Slice(0, l.Cap())) })
	slices.Reverse(all)
	for _, l := range all {
		for i := range l.Len() {
			if e := l.Index(i); e.Kind() == reflect.Uint8 {
				e.SetUint(0xEE)
			} else {
				e.SetZero()
			}
		}
	}
}

// deep are packets in memory of their own.
func deep(l []api.Packet) []api.Packet {
	out := slices.Clone(l)
	for i := range out {
		out[i].Bytes, out[i].Txn = slices.Clone(out[i].Bytes), txn.Clone(out[i].Txn)
	}
	return out
}

// handed is what New and Take are handed.
type handed struct {
	Log []api.Txn
	Led []api.Packet
}

// open is a transaction whose lists have no elements.
func open(x api.Zxid) api.Txn {
	return api.Txn{Zxid: x, Req: api.Request{Kind: api.Open, Timeout: 9, Data: []byte{}, Acl: []api.Entry{}, Who: []api.Id{}, Ops: []api.Request{}}}
}

// filled are ways to the end, and ones that do not come there, with spare room in every list that is handed in; behind each packet stand some that do not fit.
func filled() []handed {
	first, rest := pieces()
	ends := []api.Packet{diff(z(2, 2), rich(z(2, 3))), diff(z(2, 3), open(z(2, 4))), diff(z(2, 4), at(z(3, 1))), diff(z(3, 1), rich(z(3, 2))), newLeader(3, z(3, 2))}
	var out []handed
	for _, led := range [][]api.Packet{
		nil,
		{newLeader(3, z(2, 1))},
		{trunc(z(1, 3)), newLeader(3, z(1, 3))},
		{piece(first)},
		{final([]byte{1, 2, 3})},
		slices.Concat([]api.Packet{diff(z(2, 1), rich(z(2, 2)))}, ends),
		slices.Concat([]api.Packet{trunc(z(1, 3)), diff(z(1, 3), rich(z(2, 2)))}, ends),
		slices.Concat([]api.Packet{piece(first), final(rest)}, ends),
		slices.Concat([]api.Packet{piece(first), final(first), piece(rest[:9]), final(rest), final(rest[9:])}, ends),
		slices.Concat([]api.Packet{final(imageAt(z(2, 2)))}, ends),
		slices.Concat(ends, []api.Packet{diff(z(2, 1), rich(z(2, 2)))}, ends),
	} {
		h := handed{logOf(z(1, 3), z(1, 5), z(2, 1)), deep(led)}
		roomy(&h)
		out = append(out, h)
	}
	return out
}

// begun and led are the Learner of what is handed in, and one that has been handed all of it.
func (h handed) begun(t *testing.T) *pupil {
	t.Helper()
	return begun(t, 3, z(1, 2), h.Log)
}

func (h handed) led(t *testing.T) *pupil {
	t.Helper()
	u := h.begun(t)
	for _, p := range h.Led {
		u.takes(t, "with spare room", p)
	}
	return u
}

// TestHandedInStays: each list of it, and its spare room; whatever the answer is.
func TestHandedInStays(t *testing.T) {
	for i, h := range filled() {
		before := rooms(&h)
		u := h.led(t)
		u.Brought()
		u.Last()
		if !reflect.DeepEqual(rooms(&h), before) {
			t.Errorf("P17.5: %d: what was handed in is changed", i)
		}
	}
	refusedLog := logOf(z(1, 3), z(1, 2))
	roomy(&refusedLog)
	before := rooms(&refusedLog)
	refused(t, "a log that falls", 3, z(1, 2), refusedLog)
	refused(t, "an epoch", 1<<31, z(1, 2), refusedLog[:1])
	if !reflect.DeepEqual(rooms(&refusedLog), before) {
		t.Errorf("P17.5: a log that is refused is changed")
	}
}

// TestNewMemory: no two lists of what is brought share any, spare room too, nor does one with what was handed in, nor with another answer.
func TestNewMemory(t *testing.T) {
	brought := 0
	for i, h := range filled() {
		u := h.led(t)
		first, is := u.Brought()
		second, _ := u.Brought()
		if is {
			brought++
		}
		if !apart(slices.Concat(spans(&h), spans(&first), spans(&second))) {
			t.Errorf("P17.5: %d: memory is shared", i)
		}
	}
	if brought < 6 {
		t.Errorf("%d ways came to the end alone", brought)
	}
}

// TestLogIsNotKept: what is done with it behind New changes neither what fits nor what is told.
func TestLogIsNotKept(t *testing.T) {
	for i, h := range filled() {
		log := handed{Log: h.Log}
		kept := handed{Led: h.Led}
		for _, x := range h.Log {
			kept.Log = append(kept.Log, txn.Clone(x))
		}
		l, e := learn.New(3, z(1, 2), log.Log)
		if e != api.OK {
			t.Fatalf("P17.1: %d", e)
		}
		spoil(&log)
		u := &pupil{told{epoch: 3, snap: z(1, 2), log: kept.Log}, l}
		u.looks(t, "a log that was spoilt")
		for _, p := range kept.Led {
			u.takes(t, "a log that was spoilt", p)
		}
		if t.Failed() {
			t.Fatalf("P17.5: %d: the log is kept", i)
		}
	}
}

// TestPacketsAreNotKept: what is done with a packet's lists at once, behind its Take, changes nothing.
func TestPacketsAreNotKept(t *testing.T) {
	for i, h := range filled() {
		want, whether := h.led(t).Brought()
		u := h.begun(t)
		for j := range h.Led {
			u.Take(h.Led[j])
			spoil(&h.Led[j])
		}
		if b, is := u.Brought(); is != whether || !sameBrought(b, want) {
			t.Errorf("P17.5: %d: packets are kept: %+v", i, b)
		}
	}
}

// TestAnswersAreNotKept: what is done with what was brought changes neither another answer nor the Learner.
func TestAnswersAreNotKept(t *testing.T) {
	for _, h := range filled() {
		u := h.led(t)
		first, _ := u.Brought()
		second, whether := u.Brought()
		spoil(&first)
		u.looks(t, "an answer that was spoilt")
		if want, is := u.brought(); is != whether || !sameBrought(second, want) {
			t.Errorf("P17.5: two answers share memory: %+v", second)
		}
	}
}

// TestPacketTwice: one packet handed to two Learners, and one list of bytes in two Chunks, are no bond between them.
func TestPacketTwice(t *testing.T) {
	image := imageAt(z(2, 2))
	room := slices.Clone(image)
	a, b := follower(t), follower(t)
	for _, u := range []*pupil{a, b} {
		u.fit(t, "twice", piece(slices.Clone(image[:50])))
	}
	copy(room, image[50:])
	for _, u := range []*pupil{a, b} {
		if done, e := u.Take(final(room[:len(image)-50])); done || e != api.OK {
			t.Fatalf("P17.2: the end: %v, %d", done, e)
		}
		u.took = append(u.took, final(image[50:]))
	}
	spoil(&room)
	more := diff(z(2, 2), rich(z(3, 1)))
	for _, u := range []*pupil{a, b} {
		u.fit(t, "twice", more, newLeader(3, z(3, 1)))
	}
	x, _ := a.Brought()
	y, _ := b.Brought()
	if !apart(slices.Concat(spans(&x), spans(&y), spans(&more))) {
		t.Errorf("P17.5: two Learners share memory")
	}
}

// TestSpareRoomIsNotRead: what stands behind a list's end is none of it.
func TestSpareRoomIsNotRead(t *testing.T) {
	image := imageAt(z(2, 2))
	log := logOf(z(1, 3), z(1, 5), z(2, 1))
	u := begun(t, 3, z(1, 2), log[:1]).misfit(t, "spare room of a log", trunc(z(1, 5)), trunc(z(2, 1)), newLeader(3, z(2, 1)))
	u.misfit(t, "spare room of a Chunk", final(image[:len(image)-1]), final(image[:0]))
	u.fit(t, "spare room of a Chunk", piece(image[:20]), final(image[20:]))
	begun(t, 3, z(1, 2), slices.Concat(log, logOf(z(1, 1)))[:3]) // what falls stands behind its end
}

// TestEmptyIsNil: lists without elements are the same, nil or not.
func TestEmptyIsNil(t *testing.T) {
	bare := api.Txn{Zxid: z(2, 1), Req: api.Request{Kind: api.Open, Timeout: 9}}
	for _, log := range [][]api.Txn{nil, {}, make([]api.Txn, 0, 5)} {
		for _, b := range [][]byte{nil, {}} {
			p, q, end := diff(z(1, 2), open(z(2, 1))), trunc(z(1, 2)), newLeader(3, z(2, 1))
			p.Bytes, q.Bytes, end.Bytes = b, b, b
			q.Txn.Req.Data, q.Txn.Req.Ops = b, []api.Request{}
			u := begun(t, 3, z(1, 2), log).fit(t, "R4", q, p, end)
			u.brings(t, "R4", api.Brought{Epoch: 3, Cut: z(1, 2), Txns: []api.Txn{bare}})
			begun(t, 3, z(1, 2), log).misfit(t, "R4", final(b), piece(b))
		}
	}
}
