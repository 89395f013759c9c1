package path_test

import (
	"math"
	"slices"
	"strings"
	"testing"

	"lagoon/api"
	"lagoon/path"
)

func TestJoinOfParentAndBase(t *testing.T) {
	m := newMaker(3)
	for range 20000 {
		p := m.path()
		if p == "/" {
			continue
		}
		if got, e := path.Join(path.Parent(p), path.Base(p)); got != p || e != api.OK {
			t.Errorf("P5.2, P5.3: %q becomes %q, %d", p, got, e)
		}
	}
}

func TestParentAndBaseOfJoin(t *testing.T) {
	m := newMaker(4)
	for range 20000 {
		dir, name := m.path(), m.name()
		want := strings.TrimSuffix(dir, "/") + "/" + name
		p, e := path.Join(dir, name)
		if !pathLike(want) {
			joinsNot(t, dir, name)
		} else if p != want || e != api.OK || path.Parent(p) != dir || path.Base(p) != name {
			t.Errorf("P5.2, P5.3: Join(%q, %q) = %q, %d, of it %q, %q", dir, name, p, e, path.Parent(p), path.Base(p))
		}
	}
}

func TestJoinRandom(t *testing.T) {
	m := newMaker(5)
	for range 30000 {
		dir, name := m.text(6, 30), strings.TrimPrefix(m.text(5, 30), "/")
		want := strings.TrimSuffix(dir, "/") + "/" + name
		if pathLike(dir) && nameLike(name) && len(want) <= api.MaxPath {
			joins(t, dir, name, want)
		} else {
			joinsNot(t, dir, name)
		}
	}
}

func TestAboveIsAboveOfParent(t *testing.T) {
	m := newMaker(6)
	for range 20000 {
		p := m.path()
		got := slices.Collect(path.Above(p))
		if !slices.Equal(got, wantAbove(p)) {
			t.Errorf("P5.4: Above(%q) = %q", p, got)
		}
		if p != "/" && !slices.Equal(got, append(slices.Collect(path.Above(path.Parent(p))), path.Parent(p))) {
			t.Errorf("P5.4: Above(%q) = %q is not that of its parent", p, got)
		}
	}
}

// near are paths of few letters, of which many lie below one another.
func near(m maker) string {
	s := ""
	for range m.IntN(4) {
		s += "/" + m.pick([]string{"a", "b", "ab", "aa"})
	}
	if s == "" {
		return "/"
	}
	return s
}

func TestBelowIsAmongAbove(t *testing.T) {
	m := newMaker(7)
	for range 20000 {
		p, q := near(m), near(m)
		want := p != "/" && q == "/" || strings.HasPrefix(p, q+"/")
		if path.Below(p, q) != want {
			t.Errorf("P5.5: Below(%q, %q) is not %v", p, q, want)
		}
		if path.Below(p, q) != slices.Contains(slices.Collect(path.Above(p)), q) {
			t.Errorf("P5.4, P5.5: %q, %q", p, q)
		}
	}
}

func TestBelowIsAnOrder(t *testing.T) {
	m := newMaker(8)
	met := 0
	for range 50000 {
		p, q, r := near(m), near(m), near(m)
		if path.Below(p, p) {
			t.Errorf("P5.5: %q lies below itself", p)
		}
		if path.Below(p, q) && path.Below(q, r) {
			met++
			if !path.Below(p, r) || path.Below(r, p) {
				t.Errorf("P5.5: %q, %q, %q", p, q, r)
			}
		}
	}
	if met < 100 {
		t.Errorf("only %d such three paths", met)
	}
}

func TestSequencesRise(t *testing.T) {
	m := newMaker(9)
	numbers := []int32{0, 1, 9, 10, 99, 999999999, 1000000000, math.MaxInt32 - 1, math.MaxInt32}
	for range 2000 {
		numbers = append(numbers, int32(m.Uint32()>>(1+m.IntN(31))))
	}
	slices.Sort(numbers)
	numbers = slices.Compact(numbers)
	for i := range numbers[1:] {
		less, _ := path.Sequence("/a/n-", numbers[i])
		more, e := path.Sequence("/a/n-", numbers[i+1])
		if e != api.OK || less >= more {
			t.Errorf("P5.6: of %d and %d: %q, %q", numbers[i], numbers[i+1], less, more)
		}
	}
}

// R6: an answer hangs on its arguments alone.
func TestSameAnswersAgain(t *testing.T) {
	m := newMaker(10)
	for range 2000 {
		p, q := m.text(10, 40), m.name()
		n, e := path.Check(p)
		j, je := path.Join(p, q)
		s, se := path.Sequence(p, 5)
		n2, e2 := path.Check(strings.Clone(p))
		j2, je2 := path.Join(strings.Clone(p), strings.Clone(q))
		s2, se2 := path.Sequence(strings.Clone(p), 5)
		if n != n2 || e != e2 || j != j2 || je != je2 || s != s2 || se != se2 {
			t.Errorf("R6: of %q and %q other answers", p, q)
		}
	}
}
