package session_test

import (
	"reflect"
	"slices"
	"testing"

	"lagoon/api"
)

// spoil writes over a list and all of its spare room.
func spoil[T any](l []T, with T) {
	l = l[:cap(l)]
	for i := range l {
		l[i] = with
	}
}

// reach is the memory of a list, its spare room too.
type reach struct{ from, to uintptr }

func reachOf(list any) reach {
	l := reflect.ValueOf(list)
	return reach{l.Pointer(), l.Pointer() + uintptr(l.Cap())*l.Type().Elem().Size()}
}

// apart tells whether no two of these lists have memory in common.
func apart(lists ...any) bool {
	for i, a := range lists {
		for _, b := range lists[:i] {
			x, y := reachOf(a), reachOf(b)
			if max(x.from, y.from) < min(x.to, y.to) {
				return false
			}
		}
	}
	return true
}

// TestAnswersAreNotKept: what is done with each list, and with its spare room, changes nothing of the Clock.
func TestAnswersAreNotKept(t *testing.T) {
	p := full(t, 3)
	for range 12 {
		spoil(p.c.All(), api.Session{Id: -9, Timeout: -9})
		p.looks(t, "an All that was spoilt")
		p.next()
		spoil(p.c.Tick(), -9)
		p.looks(t, "a Tick that was spoilt")
	}
	p.adds(t, 7, 1, api.OK)
	p.ticks(t)
}

// TestAnswersAreApart: no list that is told has memory in common with another one, spare room too.
func TestAnswersAreApart(t *testing.T) {
	for _, span := range []int{1, 2, 3} {
		p := full(t, span)
		var lists []any
		for range 12 {
			lists = append(lists, p.c.All(), p.c.Tick(), p.c.All())
		}
		if !apart(lists...) {
			t.Errorf("P19.4: memory is shared: %v", lists)
		}
	}
}

// TestAnswersStay: what was told is not changed by what is done with the Clock behind it.
func TestAnswersStay(t *testing.T) {
	p := full(t, 3)
	all := p.c.All()
	p.c.Tick()
	p.c.Tick()
	over := p.c.Tick()
	was, had := slices.Clone(over), p.sessions()
	for i := range int64(api.MaxSessions) {
		p.c.Add(2*i+1, 1)
		p.c.Add(2*i+2, 1)
		p.c.Touch(2*i + 2)
	}
	p.c.Tick()
	p.c.Tick()
	p.c.Tick()
	p.c.Tick()
	if len(over) == 0 || !slices.Equal(all, had) || !slices.Equal(over, was) {
		t.Errorf("P19.4: what was told is changed: %v, %v", all, over)
	}
}
