package path_test

import (
	"fmt"
	"math"
	"testing"

	"lagoon/api"
	"lagoon/path"
)

func gives(t *testing.T, p string, n int32, want string) {
	t.Helper()
	if s, e := path.Sequence(p, n); s != want || e != api.OK {
		t.Errorf("P5.6: Sequence(%q, %d) = %q, %d, not %q", p, n, s, e, want)
	}
}

func givesNot(t *testing.T, p string, n int32) {
	t.Helper()
	if s, e := path.Sequence(p, n); s != "" || e != api.ErrPath {
		t.Errorf("P5.6: Sequence(%q, %d) = %q, %d, not ErrPath", p, n, s, e)
	}
}

func TestSequence(t *testing.T) {
	gives(t, "/a/n-", 7, "/a/n-0000000007")
	gives(t, "/", 0, "/0000000000")
	gives(t, "/x", -1, "/x-000000001")
	gives(t, "/x", math.MinInt32, "/x-2147483648")
	gives(t, "/x", math.MaxInt32, "/x2147483647")
	gives(t, "/x", -2147483647, "/x-2147483647")
	gives(t, "/x", 1, "/x0000000001")
	gives(t, "/x", 10, "/x0000000010")
	gives(t, "/x", 999999999, "/x0999999999")
	gives(t, "/x", 1000000000, "/x1000000000")
	gives(t, "/x", -99999999, "/x-099999999")
	gives(t, "/x", -100000000, "/x-100000000")
	gives(t, "/x", -999999999, "/x-999999999")
	gives(t, "/x", -1000000000, "/x-1000000000")
}

// What the number is put behind need be no path itself.
func TestSequenceBehindNoPath(t *testing.T) {
	gives(t, "/a/", 12, "/a/0000000012")
	gives(t, "/", -5, "/-000000005")
	gives(t, "/.", 1, "/.0000000001")
	gives(t, "/a/..", 1, "/a/..0000000001")
	gives(t, "/é", 3, "/é0000000003")
}

func TestSequenceThatIsNoPath(t *testing.T) {
	for _, p := range []string{"", "a", "a/", "//", "/a//", "/a//b", "/./a", "/../", "/a\x1f", "/\xc3", "/a/\xe2\x82", "/\xff/", "/\ufffd"} {
		givesNot(t, p, 1)
		givesNot(t, p, -1)
	}
}

func TestSequenceBytes(t *testing.T) {
	gives(t, "/"+letters(14), 1, "/"+letters(14)+"0000000001")
	givesNot(t, "/"+letters(15), 1)
	gives(t, "/"+letters(14), -1, "/"+letters(14)+"-000000001")
	givesNot(t, "/"+letters(14), -1000000000)
	gives(t, "/"+letters(13), math.MinInt32, "/"+letters(13)+"-2147483648")
	gives(t, long[:54], 1, long[:54]+"0000000001")
	givesNot(t, long[:55], 1)
	gives(t, long[:48]+"/abcde", 2, long[:48]+"/abcde0000000002")
	givesNot(t, long[:48]+"/abcdef", 2)
	gives(t, long[:52]+"/", math.MinInt32, long[:52]+"/-2147483648")
	givesNot(t, long[:53]+"/", math.MinInt32)
	givesNot(t, long, 0)
	givesNot(t, long+"/", 0)
}

func TestSequenceRandom(t *testing.T) {
	m := newMaker(2)
	for range 20000 {
		n := int32(m.Uint32()) >> m.IntN(32)
		p := m.text(8, 100)
		want := p + fmt.Sprintf("%010d", n)
		if pathLike(want) {
			gives(t, p, n, want)
		} else {
			givesNot(t, p, n)
		}
	}
}
