package watch_test

import (
	"slices"
	"strings"
	"testing"

	"lagoon/api"
	"lagoon/watch"
)

var (
	watchKinds  = []int8{api.WatchData, api.WatchChild, api.WatchStay, api.WatchBelow}
	changeKinds = []int8{api.Made, api.Gone, api.Changed, api.Childs}
)

// long is a path of 64 bytes.
var long = strings.Repeat("/abcdefg", 8)

// noPaths are texts that are no path.
var noPaths = []string{
	"", "a", "a/b", "//", "/a/", "/b/", "/a//b", "/.", "/..", "/./a", "/a/..", " /a", "/a\x00", "/a\x1f", "/a\x7f", "/\xc3\x28", "/\xff", "/\u0085", "/\ue000",
	"/" + strings.Repeat("a", api.MaxPart+1), long + "a", long + "/a", long[:63] + "/",
}

func on(client int64, kind int8, path string) api.Watch {
	return api.Watch{Client: client, Kind: kind, Path: path}
}

func of(kind int8, path string) api.Change { return api.Change{Kind: kind, Path: path} }

// row is what the chapter's table says of a kind of watch.
type row struct {
	own   string // the changes of its path that meet it, a letter each
	below string // those of the paths below it
	once  bool
}

func rowOf(kind int8) row {
	switch kind {
	case 1:
		return row{own: "MGD", once: true}
	case 2:
		return row{own: "GC", once: true}
	case 3:
		return row{own: "MGDC"}
	case 4:
		return row{own: "MGD", below: "MGD"}
	}
	return row{}
}

// isBelow is for texts that are paths.
func isBelow(p, above string) bool {
	return p != "/" && strings.HasPrefix(p, strings.TrimSuffix(above, "/")+"/")
}

// meets reads the table.
func meets(c api.Change, w api.Watch) bool {
	letter := " MGDC"[c.Kind : c.Kind+1]
	r := rowOf(w.Kind)
	return c.Path == w.Path && strings.Contains(r.own, letter) || isBelow(c.Path, w.Path) && strings.Contains(r.below, letter)
}

// told is what a Board is to be: its watches, in a list that is gone through each time.
type told struct{ all []api.Watch }

func (m *told) add(w api.Watch) api.Errno {
	if w.Kind < 1 || w.Kind > 4 || slices.Contains(noPaths, w.Path) {
		return api.ErrArg
	}
	if slices.Contains(m.all, w) {
		return api.OK
	}
	if len(m.all) == 64 {
		return api.ErrWatch
	}
	m.all = append(m.all, w)
	return api.OK
}

// part keeps the watches of which f says that they stay, and gives the others.
func (m *told) part(stays func(w api.Watch) bool) []api.Watch {
	var kept, gone []api.Watch
	for _, w := range m.all {
		if stays(w) {
			kept = append(kept, w)
		} else {
			gone = append(gone, w)
		}
	}
	m.all = kept
	return gone
}

func (m *told) fire(c api.Change) []api.Fired {
	if c.Kind < 1 || c.Kind > 4 || slices.Contains(noPaths, c.Path) {
		return nil
	}
	var out []api.Fired
	for _, w := range m.all {
		if meets(c, w) {
			out = append(out, api.Fired{Watch: w, Change: c})
		}
	}
	m.part(func(w api.Watch) bool { return !meets(c, w) || !rowOf(w.Kind).once })
	return out
}

func (m *told) drop(client int64) []api.Watch {
	return m.part(func(w api.Watch) bool { return w.Client != client })
}

func (m *told) clear() []api.Watch {
	return m.part(func(api.Watch) bool { return false })
}

// pair is a Board, and what it is to be.
type pair struct {
	told
	b *watch.Board
}

func begun() *pair { return &pair{b: watch.New()} }

// with is a Board to which these were added.
func with(t *testing.T, l ...api.Watch) *pair {
	t.Helper()
	p := begun()
	for _, w := range l {
		p.adds(t, w, api.OK)
	}
	return p
}

// looks holds what All tells against what is to be there; twice, as nothing changes by it.
func (p *pair) looks(t *testing.T, behind string) {
	t.Helper()
	for range 2 {
		if got := p.b.All(); !slices.Equal(got, p.all) {
			t.Errorf("P18.3: behind %s All tells %v, not %v", behind, got, p.all)
		}
	}
}

func (p *pair) adds(t *testing.T, w api.Watch, want api.Errno) {
	t.Helper()
	if e := p.add(w); e != want {
		t.Fatalf("the model answers %d to %v, not %d", e, w, want)
	}
	if e := p.b.Add(w); e != want {
		t.Errorf("P18.1: Add(%v) = %d, not %d", w, e, want)
	}
	p.looks(t, "an Add")
}

// fires tells how many were told, too.
func (p *pair) fires(t *testing.T, c api.Change) int {
	t.Helper()
	ahead := slices.Clone(p.all)
	want := p.fire(c)
	if got := p.b.Fire(c); !slices.Equal(got, want) {
		t.Errorf("P18.2: of %v Fire(%v) tells %v, not %v", ahead, c, got, want)
	}
	p.looks(t, "a Fire")
	return len(want)
}

func (p *pair) drops(t *testing.T, client int64) int {
	t.Helper()
	want := p.drop(client)
	if got := p.b.Drop(client); !slices.Equal(got, want) {
		t.Errorf("P18.3: Drop(%d) tells %v, not %v", client, got, want)
	}
	p.looks(t, "a Drop")
	return len(want)
}

func (p *pair) clears(t *testing.T) int {
	t.Helper()
	want := p.clear()
	if got := p.b.Clear(); !slices.Equal(got, want) {
		t.Errorf("P18.3: Clear tells %v, not %v", got, want)
	}
	p.looks(t, "a Clear")
	return len(want)
}

// full is a Board with as many watches as there may be, of all kinds; no client has more than four of them.
func full(t *testing.T) *pair {
	t.Helper()
	p := begun()
	for i := range api.MaxWatches {
		p.adds(t, on(int64(i/4), watchKinds[i%4], "/a"), api.OK)
	}
	return p
}
