package watch_test

import (
	"testing"

	"lagoon/api"
)

// several are watches of three clients, between one another.
func several() []api.Watch {
	return []api.Watch{
		on(1, api.WatchStay, "/a"), on(2, api.WatchBelow, "/a"), on(2, api.WatchData, "/a"), on(1, api.WatchData, "/a"), on(3, api.WatchChild, "/"), on(1, api.WatchChild, "/b"), on(2, api.WatchData, "/"), on(1, api.WatchData, "/"),
	}
}

func TestDrop(t *testing.T) {
	for client, want := range map[int64]int{1: 4, 2: 3, 3: 1, 0: 0, 4: 0, -1: 0, 1<<32 + 1: 0} {
		p := with(t, several()...)
		if n := p.drops(t, client); n != want {
			t.Errorf("the model drops %d of %d", n, client)
		}
		if n := p.drops(t, client); n != 0 {
			t.Errorf("P18.3: %d go twice", n)
		}
	}
}

// TestDropAllByOne: in each order of the clients; what is left fires as before.
func TestDropAllByOne(t *testing.T) {
	for _, order := range [][]int64{{1, 2, 3}, {1, 3, 2}, {2, 1, 3}, {2, 3, 1}, {3, 1, 2}, {3, 2, 1}} {
		p := with(t, several()...)
		for _, client := range order {
			p.drops(t, client)
			p.fires(t, of(api.Childs, "/a"))
		}
		p = with(t, several()...)
		p.drops(t, order[0])
		p.fires(t, of(api.Gone, "/a"))
		p.fires(t, of(api.Gone, "/"))
		p.clears(t)
	}
}

func TestDropOfAnEmptyBoard(t *testing.T) {
	p := begun()
	p.drops(t, 0)
	p.drops(t, 1)
}

// TestDroppedIsNotFired: nor is what was cleared.
func TestDroppedIsNotFired(t *testing.T) {
	p := with(t, on(1, api.WatchStay, "/a"), on(2, api.WatchStay, "/a"))
	p.drops(t, 1)
	if n := p.fires(t, of(api.Made, "/a")); n != 1 {
		t.Errorf("%d are told", n)
	}
	p.clears(t)
	if n := p.fires(t, of(api.Made, "/a")); n != 0 {
		t.Errorf("%d are told", n)
	}
}

func TestClearAndAll(t *testing.T) {
	for _, p := range []*pair{begun(), full(t), with(t, several()...), with(t, five()[0])} {
		p.looks(t, "New")
		p.clears(t)
		p.clears(t)
	}
	p := full(t)
	if n := len(p.b.All()); n != 64 {
		t.Errorf("P18.3: All tells %d", n)
	}
	if n := p.clears(t); n != 64 {
		t.Errorf("P18.3: Clear tells %d", n)
	}
	for _, w := range full(t).all {
		p.adds(t, w, api.OK)
	}
	p.adds(t, on(64, api.WatchData, "/a"), api.ErrWatch)
}

// TestAddedAgain: a watch that went stands behind the others, and there is room for it, whichever way it went.
func TestAddedAgain(t *testing.T) {
	again := on(0, api.WatchData, "/again")
	for name, goes := range map[string]func(p *pair){
		"Fire":  func(p *pair) { p.fires(t, of(api.Made, "/again")) },
		"Drop":  func(p *pair) { p.drops(t, 0) },
		"Clear": func(p *pair) { p.clears(t) },
	} {
		for place := range api.MaxWatches {
			p := begun()
			for i := range int64(api.MaxWatches) {
				if i == int64(place) {
					p.adds(t, again, api.OK)
				} else {
					p.adds(t, on(i+1, api.WatchStay, "/a"), api.OK)
				}
			}
			p.adds(t, on(-1, api.WatchStay, "/a"), api.ErrWatch)
			goes(p)
			for range 2 { // once more: it is there then
				p.adds(t, again, api.OK)
			}
			if l := p.b.All(); len(l) == 0 || l[len(l)-1] != again {
				t.Errorf("P18.4: gone by %s, and added again: %v", name, l)
			}
			if n := p.fires(t, of(api.Changed, "/again")); n != 1 {
				t.Errorf("P18.4: gone by %s, and added again: told %d times", name, n)
			}
		}
	}
}

// TestStayingKeepsItsPlace: a watch that was told and stays, added again, does not move.
func TestStayingKeepsItsPlace(t *testing.T) {
	p := with(t, five()...)
	p.fires(t, of(api.Gone, "/a"))
	p.adds(t, five()[2], api.OK)
	p.adds(t, five()[1], api.OK)
	p.adds(t, five()[0], api.OK)
	p.fires(t, of(api.Gone, "/a"))
}
