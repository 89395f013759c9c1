package watch_test

import (
	"math"
	"strings"
	"testing"

	"lagoon/api"
	"lagoon/watch"
)

func TestAddOfEachKind(t *testing.T) {
	for _, kind := range watchKinds {
		for _, p := range []string{"/", "/a", "/a/b", "/é", "/...", long, "/" + strings.Repeat("a", api.MaxPart)} {
			with(t, on(7, kind, p))
		}
	}
}

// TestAddOfNoKind: every number that an int8 may be.
func TestAddOfNoKind(t *testing.T) {
	for kind := math.MinInt8; kind <= math.MaxInt8; kind++ {
		want := api.ErrArg
		if kind >= 1 && kind <= 4 {
			want = api.OK
		}
		begun().adds(t, on(7, int8(kind), "/a"), want)
	}
}

func TestAddOfNoPath(t *testing.T) {
	p := with(t, five()...)
	for _, text := range noPaths {
		for _, kind := range watchKinds {
			p.adds(t, on(7, kind, text), api.ErrArg)
			p.adds(t, on(1, kind, text), api.ErrArg)
		}
		p.adds(t, on(7, 0, text), api.ErrArg)
	}
}

// TestAddOfOneThatIsThere: it keeps its place, whichever it is.
func TestAddOfOneThatIsThere(t *testing.T) {
	p := with(t, five()...)
	for range 2 {
		for _, w := range five() {
			p.adds(t, w, api.OK)
		}
	}
	p.fires(t, of(api.Gone, "/a"))
}

// TestAddOfAnother: what differs in one thing alone is another watch.
func TestAddOfAnother(t *testing.T) {
	p := with(t, on(1, api.WatchData, "/a"))
	p.adds(t, on(2, api.WatchData, "/a"), api.OK)
	p.adds(t, on(1, api.WatchChild, "/a"), api.OK)
	p.adds(t, on(1, api.WatchData, "/b"), api.OK)
	p.adds(t, on(1, api.WatchData, "/"), api.OK)
	p.adds(t, on(1, api.WatchData, "/A"), api.OK)
	p.adds(t, on(-1, api.WatchData, "/a"), api.OK)
	p.adds(t, on(1<<32+1, api.WatchData, "/a"), api.OK)
	if n := p.fires(t, of(api.Made, "/a")); n != 4 {
		t.Errorf("P18.2: %d are told, not 4", n)
	}
}

// TestAddUpToTheMost: the 64th is taken, the 65th is not; one that is there already is answered OK all the same, one that is no watch ErrArg.
func TestAddUpToTheMost(t *testing.T) {
	p := begun()
	for i := range int64(api.MaxWatches) {
		p.adds(t, on(i, api.WatchStay, "/a"), api.OK)
	}
	for range 2 {
		for _, kind := range watchKinds {
			p.adds(t, on(64, kind, "/a"), api.ErrWatch)
			p.adds(t, on(0, kind, "/b"), api.ErrWatch)
		}
		for i := range int64(api.MaxWatches) {
			p.adds(t, on(i, api.WatchStay, "/a"), api.OK)
		}
		p.adds(t, on(64, 5, "/a"), api.ErrArg)
		p.adds(t, on(64, 0, "/a"), api.ErrArg)
		p.adds(t, on(64, api.WatchData, "/a/"), api.ErrArg)
		p.adds(t, on(0, api.WatchStay, ""), api.ErrArg)
	}
}

// TestRefusedIsNotThere: an Add that was refused leaves no trace: once there is room the watch is a new one.
func TestRefusedIsNotThere(t *testing.T) {
	p := full(t)
	late := on(99, api.WatchData, "/late")
	p.adds(t, late, api.ErrWatch)
	if n := p.fires(t, of(api.Made, "/late")); n != 0 {
		t.Errorf("%d are told", n)
	}
	p.drops(t, 3)
	p.adds(t, late, api.OK)
	if n := p.fires(t, of(api.Made, "/late")); n != 1 {
		t.Errorf("P18.1: %d are told", n)
	}
}

func TestClients(t *testing.T) {
	l := []int64{0, -1, 1, math.MinInt64, math.MaxInt64, 1 << 32, -1 << 32}
	p := begun()
	for _, client := range l {
		p.adds(t, on(client, api.WatchData, "/a"), api.OK)
		p.adds(t, on(client, api.WatchStay, "/a"), api.OK)
	}
	if n := p.fires(t, of(api.Changed, "/a")); n != 2*len(l) {
		t.Errorf("P18.2: %d are told", n)
	}
	for _, client := range l {
		if n := p.drops(t, client); n != 1 {
			t.Errorf("P18.3: Drop(%d) tells %d", client, n)
		}
	}
}

// TestNoBoard: a nil one, and one that New did not make.
func TestNoBoard(t *testing.T) {
	for _, b := range []*watch.Board{nil, {}, new(watch.Board)} {
		for range 2 {
			for _, w := range []api.Watch{on(1, api.WatchData, "/a"), on(1, 0, ""), {}} {
				if e := b.Add(w); e != api.ErrArg {
					t.Errorf("P18.4: Add(%v) = %d", w, e)
				}
			}
			if l := b.Fire(of(api.Made, "/a")); len(l) != 0 {
				t.Errorf("P18.4: Fire tells %v", l)
			}
			if n := len(b.Drop(1)) + len(b.Drop(0)) + len(b.Clear()) + len(b.All()); n != 0 {
				t.Errorf("P18.4: %d are told", n)
			}
		}
	}
}

// TestTwoBoards: they know nothing of each other.
func TestTwoBoards(t *testing.T) {
	a, b := with(t, five()...), begun()
	b.looks(t, "the Adds to another Board")
	b.adds(t, five()[2], api.OK)
	a.clears(t)
	b.looks(t, "another Board's Clear")
	b.fires(t, of(api.Changed, "/a"))
	a.looks(t, "another Board's Fire")
}
