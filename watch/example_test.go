package watch_test

import (
	"slices"
	"testing"

	"lagoon/api"
	"lagoon/watch"
)

// five are the watches of the chapter's board; a client's number is its watch's.
func five() []api.Watch {
	return []api.Watch{on(1, api.WatchData, "/a"), on(2, api.WatchChild, "/a"), on(3, api.WatchStay, "/a"), on(4, api.WatchBelow, "/a"), on(5, api.WatchBelow, "/")}
}

func board(t *testing.T) *watch.Board {
	t.Helper()
	b := watch.New()
	for _, w := range five() {
		if e := b.Add(w); e != api.OK {
			t.Fatalf("P18.1: Add(%v) = %d", w, e)
		}
	}
	return b
}

// pick are those of the five with these numbers.
func pick(numbers ...int) []api.Watch {
	var out []api.Watch
	for _, n := range numbers {
		out = append(out, five()[n-1])
	}
	return out
}

func leaves(t *testing.T, b *watch.Board, call string, want []api.Watch) {
	t.Helper()
	if got := b.All(); !slices.Equal(got, want) {
		t.Errorf("P18.2, P18.3: %s leaves %v, not %v", call, got, want)
	}
}

func TestExamplesOfFire(t *testing.T) {
	all := []int{1, 2, 3, 4, 5}
	for _, x := range []struct {
		c            api.Change
		tells, leave []int
	}{
		{of(api.Changed, "/a"), []int{1, 3, 4, 5}, []int{2, 3, 4, 5}},
		{of(api.Childs, "/a"), []int{2, 3}, []int{1, 3, 4, 5}},
		{of(api.Gone, "/a"), all, []int{3, 4, 5}},
		{of(api.Made, "/a/b"), []int{4, 5}, all},
		{of(api.Made, "/ab"), []int{5}, all},
		{of(api.Childs, "/"), nil, all},
		{of(0, "/a"), nil, all},
		{of(api.Made, "a"), nil, all},
	} {
		b := board(t)
		var want []api.Fired
		for _, w := range pick(x.tells...) {
			want = append(want, api.Fired{Watch: w, Change: x.c})
		}
		if got := b.Fire(x.c); !slices.Equal(got, want) {
			t.Errorf("P18.2: Fire(%v) tells %v, not %v", x.c, got, want)
		}
		leaves(t, b, "Fire", pick(x.leave...))
	}
}

func TestExamplesOfAdd(t *testing.T) {
	for _, x := range []struct {
		w    api.Watch
		want api.Errno
	}{
		{on(1, api.WatchData, "/a"), api.OK},
		{on(1, api.WatchStay, "/b/"), api.ErrArg},
		{on(1, 5, "/a"), api.ErrArg},
		{on(1, 0, "/a"), api.ErrArg},
	} {
		b := board(t)
		if e := b.Add(x.w); e != x.want {
			t.Errorf("P18.1: Add(%v) = %d, not %d", x.w, e, x.want)
		}
		leaves(t, b, "Add", five())
	}
}

func TestExamplesOfDrop(t *testing.T) {
	b := board(t)
	if got := b.Drop(3); !slices.Equal(got, pick(3)) {
		t.Errorf("P18.3: Drop(3) tells %v", got)
	}
	leaves(t, b, "Drop(3)", pick(1, 2, 4, 5))
	b = board(t)
	if got := b.Drop(9); len(got) != 0 {
		t.Errorf("P18.3: Drop(9) tells %v", got)
	}
	leaves(t, b, "Drop(9)", five())
}
