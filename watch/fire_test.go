package watch_test

import (
	"math"
	"slices"
	"testing"

	"lagoon/api"
)

// TestFireOfEachKind: each kind of change with each kind of watch, at the watch's path and around it.
func TestFireOfEachKind(t *testing.T) {
	for _, x := range []struct {
		at, path string
		own      bool
		below    bool
	}{
		{"/a", "/a", true, false}, {"/a/b", "/a/b", true, false}, {"/", "/", true, false}, {long, long, true, false},
		{"/a", "/a/b", false, true}, {"/a", "/a/b/c", false, true}, {"/a", "/a/a", false, true}, {"/", "/a", false, true}, {"/", "/a/b", false, true}, {"/", long, false, true}, {long[:8], long, false, true}, {"/é", "/é/a", false, true},
		{"/a/b", "/a", false, false}, {"/a/b", "/", false, false}, {"/a", "/", false, false}, {long, "/", false, false}, {long, long[:8], false, false},
		{"/a", "/ab", false, false}, {"/ab", "/a", false, false}, {"/a", "/ab/c", false, false}, {"/a/b", "/a/bc", false, false}, {"/a", "/b", false, false}, {"/a", "/b/a", false, false}, {"/a/b", "/a/c", false, false}, {"/a", "/A", false, false}, {"/a", "/a.", false, false},
	} {
		for _, kind := range watchKinds {
			for _, change := range changeKinds {
				p := with(t, on(7, kind, x.at))
				r, letter := rowOf(kind), " MGDC"[change]
				want := 0
				if x.own && slices.Contains([]byte(r.own), letter) || x.below && slices.Contains([]byte(r.below), letter) {
					want = 1
				}
				if n := p.fires(t, of(change, x.path)); n != want {
					t.Fatalf("the model tells %d of %d at %q, of %d at %q", n, kind, x.at, change, x.path)
				}
				left := 1
				if want == 1 && r.once {
					left = 0
				}
				if n := len(p.b.All()); n != left {
					t.Errorf("P18.2: %d of %d at %q are left by %d at %q", n, kind, x.at, change, x.path)
				}
			}
		}
	}
}

// TestTable: the chapter's table, as it stands there.
func TestTable(t *testing.T) {
	for _, x := range []struct {
		kind       int8
		own, below []int8
		goes       bool
	}{
		{api.WatchData, []int8{api.Made, api.Gone, api.Changed}, nil, true},
		{api.WatchChild, []int8{api.Gone, api.Childs}, nil, true},
		{api.WatchStay, []int8{api.Made, api.Gone, api.Changed, api.Childs}, nil, false},
		{api.WatchBelow, []int8{api.Made, api.Gone, api.Changed}, []int8{api.Made, api.Gone, api.Changed}, false},
	} {
		for _, change := range changeKinds {
			for _, place := range []struct {
				path string
				met  []int8
			}{{"/a", x.own}, {"/a/b", x.below}, {"/ab", nil}, {"/", nil}} {
				b := with(t, on(7, x.kind, "/a")).b
				c := of(change, place.path)
				met := slices.Contains(place.met, change)
				if got := b.Fire(c); met && !slices.Equal(got, []api.Fired{{Watch: on(7, x.kind, "/a"), Change: c}}) || !met && len(got) != 0 {
					t.Errorf("P18.2: a watch of kind %d: Fire(%v) tells %v", x.kind, c, got)
				}
				if gone := len(b.All()) == 0; gone != (met && x.goes) {
					t.Errorf("P18.2: a watch of kind %d: gone by %v: %v", x.kind, c, gone)
				}
			}
		}
	}
}

// TestFireOfNoChange: every number that an int8 may be, but those of kinds; texts that are no path.
func TestFireOfNoChange(t *testing.T) {
	p := full(t)
	p.drops(t, 0)
	p.adds(t, on(0, api.WatchBelow, "/"), api.OK)
	for kind := math.MinInt8; kind <= math.MaxInt8; kind++ {
		if kind >= 1 && kind <= 4 {
			continue
		}
		for _, at := range []string{"/a", "/", "/a/b"} {
			if n := p.fires(t, of(int8(kind), at)); n != 0 {
				t.Errorf("the model tells %d", n)
			}
		}
	}
	for _, text := range noPaths {
		for kind := range int8(6) {
			p.fires(t, of(kind, text))
		}
	}
}

func TestFireOfAnEmptyBoard(t *testing.T) {
	p := begun()
	for _, change := range changeKinds {
		for _, at := range []string{"/", "/a"} {
			p.fires(t, of(change, at))
		}
	}
}

// TestFireTellsInOrder: those that are met, those that are not, that go and that stay, mixed; whatever clients and kinds are lesser.
func TestFireTellsInOrder(t *testing.T) {
	mixed := []api.Watch{
		on(9, api.WatchBelow, "/"), on(3, api.WatchData, "/a"), on(3, api.WatchData, "/b"), on(8, api.WatchStay, "/a"), on(1, api.WatchChild, "/a"), on(2, api.WatchData, "/a"),
		on(-5, api.WatchData, "/a/b"), on(1, api.WatchBelow, "/a"), on(0, api.WatchData, "/a"), on(9, api.WatchStay, "/a"), on(7, api.WatchChild, "/a"), on(3, api.WatchStay, "/"), on(3, api.WatchChild, "/"),
	}
	for _, l := range [][]api.Watch{mixed, reversed(mixed)} {
		for _, change := range changeKinds {
			for _, at := range []string{"/a", "/a/b", "/", "/b"} {
				p := with(t, l...)
				p.fires(t, of(change, at))
				p.fires(t, of(change, at))
				p.fires(t, of(api.Gone, "/a"))
			}
		}
	}
}

func reversed(l []api.Watch) []api.Watch {
	out := slices.Clone(l)
	slices.Reverse(out)
	return out
}

// TestFireOfAFullBoard: all are met; what goes leaves room for as many.
func TestFireOfAFullBoard(t *testing.T) {
	p := full(t)
	if n := p.fires(t, of(api.Gone, "/a")); n != api.MaxWatches {
		t.Errorf("P18.2: %d are told", n)
	}
	for i := range int64(32) {
		p.adds(t, on(100+i, api.WatchData, "/a"), api.OK)
	}
	p.adds(t, on(200, api.WatchData, "/a"), api.ErrWatch)
}

// TestOnceIsToldOnce: by the first change that meets it, however many do not meet it ahead; one that stays by every one.
func TestOnceIsToldOnce(t *testing.T) {
	for _, kind := range watchKinds {
		for first := range changeKinds {
			p := with(t, on(7, kind, "/a"))
			times, met := 0, 0
			for i := range 12 {
				c := of(changeKinds[(first+i)%4], "/a")
				p.fires(t, of(c.Kind, "/b"))
				p.fires(t, of(0, "/a"))
				times += p.fires(t, c)
				if meets(c, on(7, kind, "/a")) {
					met++
				}
			}
			if rowOf(kind).once {
				met = 1
			}
			if times != met {
				t.Errorf("P18.2: a watch of kind %d is told %d times, not %d", kind, times, met)
			}
		}
	}
}
