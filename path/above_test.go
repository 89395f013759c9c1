package path_test

import (
	"iter"
	"slices"
	"strings"
	"testing"

	"lagoon/path"
)

func TestAbove(t *testing.T) {
	for p, want := range map[string][]string{
		"/a/b/c":  {"/", "/a", "/a/b"},
		"/a":      {"/"},
		"/ab/cd":  {"/", "/ab"},
		"/a/a/a":  {"/", "/a", "/a/a"},
		"/é/€/x":  {"/", "/é", "/é/€"},
		"/...":    {"/"},
		"/":       nil,
		long:      {"/", long[:8], long[:16], long[:24], long[:32], long[:40], long[:48], long[:56]},
		"/0/1/2/": nil,
	} {
		if got := slices.Collect(path.Above(p)); !slices.Equal(got, want) {
			t.Errorf("P5.4: Above(%q) = %q, not %q", p, got, want)
		}
	}
}

func TestAboveMostNames(t *testing.T) {
	p := strings.Repeat("/a", 32)
	got := slices.Collect(path.Above(p))
	if len(got) != 32 || got[0] != "/" || got[31] != p[:62] {
		t.Errorf("P5.4: Above(%q) = %q", p, got)
	}
}

func TestAboveOfNoPath(t *testing.T) {
	for _, p := range noPaths {
		for q := range path.Above(p) {
			t.Errorf("P5.4: Above(%q) gives %q", p, q)
		}
	}
}

func TestAboveSeveralTimes(t *testing.T) {
	walk := path.Above("/a/b/c")
	for i := range 3 {
		if got := slices.Collect(walk); !slices.Equal(got, []string{"/", "/a", "/a/b"}) {
			t.Errorf("P5.4: going %d gives %q", i, got)
		}
	}
}

func TestAboveLeftEarly(t *testing.T) {
	walk := path.Above("/a/b/c")
	for most := range 5 {
		n := 0
		walk(func(string) bool {
			n++
			return n < most
		})
		if n != min(max(most, 1), 3) {
			t.Errorf("P5.4: left at %d: %d were given", most, n)
		}
	}
	if got := slices.Collect(walk); len(got) != 3 {
		t.Errorf("P5.4: behind goings that were left: %q", got)
	}
}

func TestAboveNestedAndPulled(t *testing.T) {
	walk := path.Above("/a/b")
	var got []string
	for p := range walk {
		got = append(got, p)
		for q := range walk {
			got = append(got, q)
		}
	}
	if !slices.Equal(got, []string{"/", "/", "/a", "/a", "/", "/a"}) {
		t.Errorf("P5.4: nested: %q", got)
	}
	next, stop := iter.Pull(walk)
	other, stopOther := iter.Pull(walk)
	defer stopOther()
	for _, want := range []string{"/", "/a"} {
		for _, f := range []func() (string, bool){next, other} {
			if p, ok := f(); !ok || p != want {
				t.Errorf("P5.4: side by side: %q, %v, not %q", p, ok, want)
			}
		}
	}
	stop()
	if p, ok := other(); ok {
		t.Errorf("P5.4: behind the last one comes %q", p)
	}
}

func TestAboveTakesNoYield(t *testing.T) {
	for _, p := range []string{"/a/b", "/", "", "x"} {
		path.Above(p)(nil) // R1: it does not panic
	}
}

func TestBelow(t *testing.T) {
	for _, x := range []struct {
		p, above string
		want     bool
	}{
		{"/a/b", "/a", true}, {"/a", "/", true}, {"/ab", "/a", false}, {"/", "/", false},
		{"/a/b", "/", true}, {"/a/b/c", "/a", true}, {"/a/b/c", "/a/b", true}, {long, long[:8], true}, {long, "/", true}, {"/é/a", "/é", true},
		{"/a", "/a", false}, {"/a", "/a/b", false}, {"/", "/a", false}, {"/a/b", "/b", false}, {"/a/bc", "/a/b", false}, {"/a/b", "/a/b", false}, {"/b/a", "/a", false}, {"/aa/b", "/a", false},
		{"/a/b", "", false}, {"/a/b", "/a/", false}, {"/a//b", "/a", false}, {"/a/", "/a", false}, {"/a/", "/", false}, {"/a/b", "a", false},
		{"a/b", "a", false}, {"", "", false}, {"", "/", false}, {"/", "", false}, {"/a/./b", "/a", false}, {"/a/./b", "/a/.", false}, {"/../b", "/..", false},
		{"/a\x00/b", "/a\x00", false}, {long + "/a", long, false}, {"/" + letters(25) + "/b", "/", false},
	} {
		if path.Below(x.p, x.above) != x.want {
			t.Errorf("P5.5: Below(%q, %q) is not %v", x.p, x.above, x.want)
		}
	}
}

func TestBelowOfNoPath(t *testing.T) {
	for _, p := range noPaths {
		for _, q := range append([]string{"/", "/a", long}, noPaths...) {
			if path.Below(p, q) || path.Below(q, p) {
				t.Errorf("P5.5: %q and %q", p, q)
			}
		}
	}
}
