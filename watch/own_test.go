package watch_test

import (
	"reflect"
	"slices"
	"testing"

	"lagoon/api"
)

// spoil writes over a list and all of its spare room.
func spoil[T any](l []T, with T) {
	l = l[:cap(l)]
	for i := range l {
		l[i] = with
	}
}

// span is the memory of a list, its spare room too.
type span struct{ from, to uintptr }

func spanOf(list any) span {
	l := reflect.ValueOf(list)
	return span{l.Pointer(), l.Pointer() + uintptr(l.Cap())*l.Type().Elem().Size()}
}

// apart tells whether no two of these lists have memory in common.
func apart(lists ...any) bool {
	for i, a := range lists {
		for _, b := range lists[:i] {
			x, y := spanOf(a), spanOf(b)
			if max(x.from, y.from) < min(x.to, y.to) {
				return false
			}
		}
	}
	return true
}

// TestAnswersAreNotKept: what is done with each list, and with its spare room, changes nothing on the Board.
func TestAnswersAreNotKept(t *testing.T) {
	bad := on(-9, 9, "spoilt")
	for _, filled := range []func(t *testing.T) *pair{full, func(t *testing.T) *pair { return with(t, several()...) }, func(t *testing.T) *pair { return with(t, five()...) }} {
		p := filled(t)
		spoil(p.b.All(), bad)
		p.looks(t, "an All that was spoilt")
		p.fire(of(api.Childs, "/a"))
		spoil(p.b.Fire(of(api.Childs, "/a")), api.Fired{Watch: bad})
		p.looks(t, "a Fire that was spoilt")
		p.drop(2)
		spoil(p.b.Drop(2), bad)
		p.looks(t, "a Drop that was spoilt")
		p.drops(t, 99)
		spoil(p.b.Drop(99), bad)
		p.looks(t, "a Drop of none that was spoilt")
		kept := slices.Clone(p.all)
		p.clear()
		l := p.b.Clear()
		for i := len(kept); i > 0; i-- {
			p.adds(t, kept[i-1], api.OK)
		}
		if !slices.Equal(l, kept) {
			t.Errorf("P18.4: what Clear told is changed by Adds: %v", l)
		}
		spoil(l, bad)
		p.looks(t, "a Clear that was spoilt")
		p.fires(t, of(api.Gone, "/a"))
	}
}

// TestAnswersAreApart: no list that is told has memory in common with another one, spare room too.
func TestAnswersAreApart(t *testing.T) {
	for _, p := range []*pair{full(t), with(t, several()...), with(t, five()...), with(t, five()[0]), begun()} {
		all, fired, more := p.b.All(), p.b.Fire(of(api.Changed, "/a")), p.b.Fire(of(api.Made, "/a"))
		one, other, rest, next := p.b.Drop(2), p.b.Drop(3), p.b.All(), p.b.All()
		cleared := p.b.Clear()
		for _, w := range several() {
			p.b.Add(w)
		}
		if !apart(all, fired, more, one, other, rest, next, cleared, p.b.All(), p.b.Clear(), p.b.Clear()) {
			t.Errorf("P18.4: of %v: memory is shared", all)
		}
	}
}

// TestAnswersStay: what was told is not changed by what is done with the Board behind it.
func TestAnswersStay(t *testing.T) {
	p := with(t, several()...)
	all := p.b.All()
	fired := p.b.Fire(of(api.Gone, "/a"))
	told := slices.Clone(fired)
	dropped := p.b.Drop(1)
	was := slices.Clone(dropped)
	for i := range int64(api.MaxWatches) {
		p.b.Add(on(100+i, api.WatchData, "/a"))
	}
	p.b.Fire(of(api.Gone, "/a"))
	p.b.Clear()
	p.b.Add(on(5, api.WatchData, "/a"))
	if !slices.Equal(all, several()) || !slices.Equal(fired, told) || !slices.Equal(dropped, was) {
		t.Errorf("P18.4: what was told is changed: %v, %v, %v", all, fired, dropped)
	}
}
