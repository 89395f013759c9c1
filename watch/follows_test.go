package watch_test

import (
	"math/rand/v2"
	"slices"
	"testing"

	"lagoon/api"
)

// some gives watches and changes by chance, few enough that they meet; and now and then ones that may not be.
type some struct{ *rand.Rand }

func (s some) path() string {
	l := []string{"/", "/a", "/a/b", "/a/b/c", "/ab", "/b", "/a/bc"}
	if s.IntN(20) == 0 {
		l = noPaths
	}
	return l[s.IntN(len(l))]
}

func (s some) watch() api.Watch {
	kind := int8(1 + s.IntN(4))
	if s.IntN(20) == 0 {
		kind = int8(s.IntN(256) - 128)
	}
	return on(int64(s.IntN(9)-2), kind, s.path())
}

func (s some) change() api.Change {
	kind := int8(1 + s.IntN(4))
	if s.IntN(20) == 0 {
		kind = int8(s.IntN(256) - 128)
	}
	return of(kind, s.path())
}

// TestByChance holds a Board against the chapter's words over long ways, on which it is empty, and full, several times.
func TestByChance(t *testing.T) {
	s := some{rand.New(rand.NewPCG(18, 1))}
	refused := 0
	for range 30 {
		p := begun()
		calm := s.IntN(2) == 0 // so that it comes to be full
		for range 400 {
			switch n := s.IntN(100); {
			case n < 70 || calm && n < 97:
				w := s.watch()
				m := p.told
				want := m.add(w)
				if want == api.ErrWatch {
					refused++
				}
				p.adds(t, w, want)
			case n < 97:
				p.fires(t, s.change())
			case n < 99:
				p.drops(t, int64(s.IntN(10)-2))
			default:
				p.clears(t)
			}
		}
		if t.Failed() {
			return
		}
	}
	if refused == 0 {
		t.Errorf("no Board was full")
	}
}

// stays tells those of what Fire told that stand on the Board all the same.
func stays(l []api.Fired) []api.Watch {
	var out []api.Watch
	for _, f := range l {
		if f.Watch.Kind == api.WatchStay || f.Watch.Kind == api.WatchBelow {
			out = append(out, f.Watch)
		}
	}
	return out
}

func watches(l []api.Fired) []api.Watch {
	var out []api.Watch
	for _, f := range l {
		out = append(out, f.Watch)
	}
	return out
}

// sorted puts lists of watches together, so that two such can be held against each other.
func sorted(lists ...[]api.Watch) []api.Watch {
	out := slices.Concat(lists...)
	slices.SortFunc(out, func(a, b api.Watch) int {
		if a.Client != b.Client {
			return int(a.Client - b.Client)
		}
		if a.Kind != b.Kind {
			return int(a.Kind) - int(b.Kind)
		}
		if a.Path < b.Path {
			return -1
		}
		return 1
	})
	return out
}

// TestNothingIsLost: what Fire, Drop and Clear tell, and what All tells behind them, are together what All told ahead, but that Fire's that stay stand in both.
func TestNothingIsLost(t *testing.T) {
	s := some{rand.New(rand.NewPCG(18, 2))}
	for range 200 {
		b := begun().b
		for range s.IntN(120) {
			b.Add(s.watch())
		}
		for range 10 {
			ahead := b.All()
			fired := b.Fire(s.change())
			if left := b.All(); !slices.Equal(sorted(ahead, stays(fired)), sorted(watches(fired), left)) {
				t.Fatalf("P18.2: %v ahead; Fire tells %v, and leaves %v", ahead, fired, left)
			}
			ahead = b.All()
			dropped := b.Drop(int64(s.IntN(20) - 5))
			if left := b.All(); !slices.Equal(sorted(ahead), sorted(dropped, left)) {
				t.Fatalf("P18.3: %v ahead; Drop tells %v, and leaves %v", ahead, dropped, left)
			}
		}
		ahead := b.All()
		cleared := b.Clear()
		if left := b.All(); !slices.Equal(ahead, cleared) || len(left) != 0 {
			t.Fatalf("P18.3: %v ahead; Clear tells %v, and leaves %v", ahead, cleared, left)
		}
	}
}

// TestToldAsOftenAsAdded: over a long way a watch that is for once is told at most once for each time it was added, and then it is the first change behind that Add that meets it; one that stays is told of each.
func TestToldAsOftenAsAdded(t *testing.T) {
	s := some{rand.New(rand.NewPCG(18, 3))}
	for range 40 {
		b := begun().b
		waits := map[api.Watch]int{} // how often each is still to be told: 1 for once, -1 always
		for range 300 {
			if w := s.watch(); s.IntN(2) == 0 {
				if b.Add(w) == api.OK {
					waits[w] = 1
					if !rowOf(w.Kind).once {
						waits[w] = -1
					}
				}
				continue
			}
			c := s.change()
			fired := watches(b.Fire(c))
			for w, n := range waits {
				want := n != 0 && c.Kind >= 1 && c.Kind <= 4 && !slices.Contains(noPaths, c.Path) && meets(c, w)
				if slices.Contains(fired, w) != want {
					t.Fatalf("P18.2: Fire(%v): is %v told: %v", c, w, !want)
				}
				if want && n > 0 {
					waits[w] = 0
				}
			}
		}
	}
}
