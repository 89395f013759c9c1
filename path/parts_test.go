package path_test

import (
	"testing"

	"lagoon/api"
	"lagoon/path"
)

// noPaths are texts that are none, for the calls that look no further.
var noPaths = []string{
	"", "a", "x", "a/b", "//", "/a/", "/a//b", "//a", "/.", "/..", "/a/.", "/a/../b", "/a\x00", "/\x7f/a", "/a/\xc3", "/\ufffd",
	"/" + letters(25), "/a/" + letters(25) + "/b", long + "h", long + "/h",
}

// noNames are texts that are none.
var noNames = []string{"", ".", "..", "/", "a/", "/a", "b/c", "a/.", "\x00", "a\x1f", "\x7f", "\u009f", "\ue000", "\uffff", "\xc3", "\xc3(", "\xed\xa0\x80", "\xff", letters(25), letters(24) + "/", letters(70)}

func TestParentAndBase(t *testing.T) {
	for _, x := range [][3]string{
		{"/a/b", "/a", "b"}, {"/a", "/", "a"}, {"/", "", ""}, {"x", "", ""},
		{"/a/b/c", "/a/b", "c"}, {"/ab", "/", "ab"}, {"/ab/c", "/ab", "c"}, {"/é/€", "/é", "€"}, {"/a/a/a", "/a/a", "a"},
		{"/.../..a", "/...", "..a"}, {"/" + letters(24), "/", letters(24)}, {long, long[:56], "abcdefg"},
	} {
		if got := path.Parent(x[0]); got != x[1] {
			t.Errorf("P5.2: Parent(%q) = %q, not %q", x[0], got, x[1])
		}
		if got := path.Base(x[0]); got != x[2] {
			t.Errorf("P5.2: Base(%q) = %q, not %q", x[0], got, x[2])
		}
	}
}

func TestParentAndBaseOfNoPath(t *testing.T) {
	for _, p := range noPaths {
		if d, n := path.Parent(p), path.Base(p); d != "" || n != "" {
			t.Errorf("P5.2: %q: %q, %q, not empty", p, d, n)
		}
	}
}

func joins(t *testing.T, dir, name, want string) {
	t.Helper()
	if p, e := path.Join(dir, name); p != want || e != api.OK {
		t.Errorf("P5.3: Join(%q, %q) = %q, %d, not %q", dir, name, p, e, want)
	}
}

func joinsNot(t *testing.T, dir, name string) {
	t.Helper()
	if p, e := path.Join(dir, name); p != "" || e != api.ErrPath {
		t.Errorf("P5.3: Join(%q, %q) = %q, %d, not ErrPath", dir, name, p, e)
	}
}

func TestJoin(t *testing.T) {
	joins(t, "/", "a", "/a")
	joins(t, "/a", "b", "/a/b")
	joins(t, "/a/b", "...", "/a/b/...")
	joins(t, "/", "é", "/é")
	joins(t, "/", letters(24), "/"+letters(24))
	joins(t, "/a", letters(24), "/a/"+letters(24))
}

func TestJoinExamplesThatFail(t *testing.T) {
	joinsNot(t, "/a", "")
	joinsNot(t, "/a", "b/c")
	joinsNot(t, "a", "b")
}

func TestJoinOfNoPath(t *testing.T) {
	for _, dir := range noPaths {
		joinsNot(t, dir, "b")
		joinsNot(t, dir, "")
		joinsNot(t, dir, "/b")
	}
}

func TestJoinOfNoName(t *testing.T) {
	for _, name := range noNames {
		joinsNot(t, "/", name)
		joinsNot(t, "/a", name)
	}
}

// A code point must not come about of two texts' ends.
func TestJoinOfHalves(t *testing.T) {
	joinsNot(t, "/a\xc3", "\xa9")
	joinsNot(t, "/", "\xa9")
}

func TestJoinBytes(t *testing.T) {
	joins(t, long[:56], "abcdefg", long)
	joinsNot(t, long[:56], "abcdefgh")
	joinsNot(t, long, "a")
	joinsNot(t, long[:63], "a")
	joins(t, long[:62], "a", long[:62]+"/a")
	joinsNot(t, long[:61], "é€")
	joins(t, long[:61], "é", long[:61]+"/é")
}
