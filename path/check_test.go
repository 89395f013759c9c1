package path_test

import (
	"strings"
	"testing"

	"lagoon/api"
	"lagoon/path"
)

// letters is a name, or a piece of one, of so many bytes.
func letters(n int) string { return strings.Repeat("a", n) }

// long is a path of 64 bytes.
var long = strings.Repeat("/abcdefg", 8)

func isFine(t *testing.T, p string) {
	t.Helper()
	if n, e := path.Check(p); n != 0 || e != api.OK {
		t.Errorf("P5.1: Check(%q) = %d, %d, not 0, OK", p, n, e)
	}
}

func isWrong(t *testing.T, p string, at int) {
	t.Helper()
	if n, e := path.Check(p); n != at || e != api.ErrPath {
		t.Errorf("P5.1: Check(%q) = %d, %d, not %d, ErrPath", p, n, e, at)
	}
}

// isAsked holds Check against the chapter's list of faults.
func isAsked(t *testing.T, p string) {
	t.Helper()
	if want, err := wantCheck(p); err == api.OK {
		isFine(t, p)
	} else {
		isWrong(t, p, want)
	}
}

func TestCheckExamples(t *testing.T) {
	for _, p := range []string{"/", "/a", "/a/b.c/...", "/\xc3\xa9"} {
		isFine(t, p)
	}
	for _, x := range []struct {
		p  string
		at int
	}{
		{"", 0}, {"a", 0}, {"//", 1}, {"/./a", 1}, {"/a/", 3}, {"/a//b", 3}, {"/a/..", 3},
		{"/" + letters(25), 25}, {"/a\x1f", 2}, {"/\xc3\x28", 1}, {"/a/" + letters(61), 27},
	} {
		isWrong(t, x.p, x.at)
	}
}

func TestCheckBeginning(t *testing.T) {
	for _, p := range []string{"", "a", ".", "..", "a/", "a/b", "a//", " /a", "\x00", "./", "\xff", "\xc3\xa9/a", `\a`, letters(65)} {
		isWrong(t, p, 0)
	}
}

func TestCheckEmptyNames(t *testing.T) {
	for p, at := range map[string]int{
		"//": 1, "///": 1, "//a": 1, "/a/": 3, "/a//": 3, "/a///b": 3, "/a/b/": 5, "/a/b//c": 5,
		long[:63] + "/": 64, long[:62] + "//": 63,
	} {
		isWrong(t, p, at)
	}
}

func TestCheckDots(t *testing.T) {
	for p, at := range map[string]int{
		"/.": 1, "/..": 1, "/./": 1, "/../": 1, "/./a": 1, "/../a": 1, "/a/.": 3, "/a/..": 3, "/a/./b": 3, "/a/../b": 3,
		"/.a/..": 4, "/.../.": 5, "/a/b/..": 5, "/./..": 1, "/é/..": 4,
	} {
		isWrong(t, p, at)
	}
	for _, p := range []string{
		"/...", "/....", "/.a", "/a.", "/..a", "/a..", "/.a.", "/a.b", "/. ", "/. .", "/ .", "/...a", "/.é", "/..é", "/a/.b/c..",
		"/" + strings.Repeat(".", 24), "/.../...",
	} {
		isFine(t, p)
	}
	isWrong(t, "/"+strings.Repeat(".", 25), 25)
}

func TestCheckNameBytes(t *testing.T) {
	isFine(t, "/a")
	isFine(t, "/"+letters(24))
	isFine(t, "/"+letters(24)+"/"+letters(24)+"/b")
	isWrong(t, "/"+letters(25), 25)
	isWrong(t, "/"+letters(25)+"/b", 25)
	isWrong(t, "/"+letters(60), 25)
	isWrong(t, "/b/"+letters(25), 27)
	isWrong(t, "/"+letters(24)+"/"+letters(25), 50)
	isFine(t, "/"+strings.Repeat("é", 12))
	isFine(t, "/"+strings.Repeat("€", 8))
	isFine(t, "/"+strings.Repeat("\U00010000", 6))
}

// A code point may begin within a name's bytes and end behind them: the fault is the first byte behind.
func TestCheckNameBytesWithinCodePoint(t *testing.T) {
	isWrong(t, "/"+letters(23)+"é", 25)
	isWrong(t, "/"+letters(22)+"€", 25)
	isWrong(t, "/"+letters(23)+"€", 25)
	isWrong(t, "/"+letters(21)+"\U00010000", 25)
	isWrong(t, "/"+letters(23)+"\U0010ffff/b", 25)
	isFine(t, "/"+letters(22)+"é")
	isFine(t, "/"+letters(21)+"€")
	isFine(t, "/"+letters(20)+"\U00010000")
	isWrong(t, "/"+letters(23)+"\xc3", 24)
	isWrong(t, "/"+letters(23)+"\ue000", 24)
	isWrong(t, "/"+letters(24)+"\ue000", 25)
	isWrong(t, "/"+letters(24)+"\x80", 25)
}

func TestCheckPathBytes(t *testing.T) {
	isFine(t, long)
	isFine(t, long[:63])
	isWrong(t, long+"h", 64)
	isWrong(t, long+"/h", 64)
	isWrong(t, long+"/", 64)
	isWrong(t, long+"\x00", 64)
	isWrong(t, strings.Repeat("/abcdefg", 1000), 64)
}

// What stands ahead of byte 64 may hang on bytes behind it.
func TestCheckAcrossPathBytes(t *testing.T) {
	head := long[:56] // up to here names are whole
	isWrong(t, head+"/abcdef/", 64)
	isWrong(t, head+"/abcde/.", 63)
	isWrong(t, head+"/abcde/..", 63)
	isWrong(t, head+"/abcde/../b", 63)
	isWrong(t, head+"/abcde/...", 64)
	isWrong(t, head+"/abcde/..b", 64)
	isWrong(t, head+"/abcde/.b", 64)
	isWrong(t, head+"/abcde//", 63)
	isWrong(t, head+"/abcdef/.", 64)
	isWrong(t, head+"/abcdef//", 64)
	isFine(t, head+"/abcdeé")
	isWrong(t, head+"/abcdefé", 64)
	isWrong(t, head+"/abcdef€", 64)
	isWrong(t, head+"/abcdef\U0010ffff", 64)
	isWrong(t, head+"/abcdef\xc3", 63)
	isWrong(t, head+"/abcdef\xc3\x28", 63)
	isWrong(t, head+"/abcdef\xef\xbf\xbd", 63)
	isWrong(t, head+"/abcdefg\xff", 64)
}

func TestCheckEveryCodePoint(t *testing.T) {
	for point := range 0x110000 {
		if point >= 0xD800 && point <= 0xDFFF {
			continue // it has no bytes; its form is among the wrong ones below
		}
		p := "/b" + string(rune(point)) + "c"
		n, e := path.Check(p)
		fine := mayHave(point)
		if fine && (n != 0 || e != api.OK) || !fine && (n != 2 || e != api.ErrPath) {
			t.Errorf("P5.1: the code point %X: %d, %d", point, n, e)
		}
	}
}

func TestCheckRangesOfCodePoints(t *testing.T) {
	for _, p := range []string{"/\x20", "/\x7e", "/\u00a0", "/\ud7ff", "/\uf900", "/\uffef", "/\U00010000", "/\U0001fff0", "/\U0001ffff", "/\U0010fffd", "/\U0010ffff"} {
		isFine(t, p)
	}
	for _, p := range []string{"/\x00", "/\x1f", "/\x7f", "/\u0080", "/\u009f", "/\ue000", "/\uf8ff", "/\ufff0", "/\ufffd", "/\uffff"} {
		isWrong(t, p, 1)
		isWrong(t, p+"/b", 1)
		isWrong(t, "/b"+p, 3)
		isWrong(t, "/.é"+p[1:], 4)
	}
}

func TestCheckNoUTF8(t *testing.T) {
	for _, s := range []string{
		"\x80", "\xbf", "\xfe", "\xff", "\xf8\x88\x80\x80\x80", // no first bytes
		"\xc3", "\xe2", "\xe2\x82", "\xf0", "\xf0\x90", "\xf0\x90\x80", // cut off
		"\xc3\x28", "\xe2\x28\xa1", "\xe2\x82\x28", "\xf0\x28\x8c\xbc", "\xf0\x90\x28\xbc", "\xf0\x90\x8c\x28", "\xc3\xc3", "\xe2\x82\xc3",
		"\xc0\xaf", "\xc0\xae", "\xc1\xbf", "\xe0\x80\xaf", "\xe0\x9f\xbf", "\xf0\x80\x80\xaf", "\xf0\x8f\xbf\xbf", // too long a form
		"\xed\xa0\x80", "\xed\xaf\xbf", "\xed\xb0\x80", "\xed\xbf\xbf", // D800 to DFFF
		"\xf4\x90\x80\x80", "\xf5\x80\x80\x80", "\xf7\xbf\xbf\xbf", // above 10FFFF
	} {
		isWrong(t, "/"+s, 1)
		isWrong(t, "/ab"+s+"c", 3)
		isWrong(t, "/a/"+s+"/c", 3)
		isWrong(t, "/é"+s, 3)
		isWrong(t, "/"+letters(23)+s, 24)
	}
	for _, s := range []string{"\xc2\xa0", "\xdf\xbf", "\xe0\xa0\x80", "\xed\x9f\xbf", "\xf0\x90\x80\x80", "\xf4\x8f\xbf\xbf"} {
		isFine(t, "/"+s)
	}
}

// Each fault alone stands above; here are two in one text, each of them ahead once.
func TestCheckTwoFaults(t *testing.T) {
	kinds := []string{"/", "/.", "/..", "/b\x1f", "/b\xff", "/b\xc3", "/" + letters(25)}
	for _, first := range kinds {
		for _, second := range kinds {
			p := "/a" + first + second
			isAsked(t, p)
			want, _ := wantCheck("/a" + first + "/a")
			isWrong(t, p, want)
		}
	}
	for _, x := range kinds {
		isWrong(t, "a"+x, 0)
		isWrong(t, x+strings.Repeat("/a", 40), faultsOf(x + "/a")[0])
		isWrong(t, long+x, 64)
	}
}

// edgeBytes: the first and the last ones of what UTF-8 and the chapter set apart.
const edgeBytes = "\x00\x1f\x20./0~\x7f\x80\x8f\x90\x9f\xa0\xaf\xb0\xbf\xc0\xc1\xc2\xdf\xe0\xe1\xed\xee\xef\xf0\xf1\xf3\xf4\xf5\xff"

// everyText goes through the texts of up to so many edge bytes behind a beginning.
func everyText(begin string, more int, see func(p string)) {
	see(begin)
	if more == 0 {
		return
	}
	for i := range len(edgeBytes) {
		everyText(begin+edgeBytes[i:i+1], more-1, see)
	}
}

func TestCheckAllShortTexts(t *testing.T) {
	everyText("", 2, func(p string) { isAsked(t, p) })
	everyText("/", 4, func(p string) { isAsked(t, p) })
	everyText("/"+letters(22), 3, func(p string) { isAsked(t, p) })
	everyText(long[:62], 3, func(p string) { isAsked(t, p) })
}

func TestCheckRandom(t *testing.T) {
	m := newMaker(1)
	fine := 0
	for range 60000 {
		p := m.text(40, 1+m.IntN(200))
		isAsked(t, p)
		if pathLike(p) {
			fine++
		}
	}
	for range 20000 {
		p := m.path()
		isFine(t, p)
		at := m.IntN(len(p) + 1)
		isAsked(t, p[:at]+m.pick(wrong)+p[at:])
		isAsked(t, p[:at]+"/"+p[at:])
		isAsked(t, p[:at])
		isAsked(t, p[at:])
	}
	if fine < 100 {
		t.Errorf("only %d of the texts are paths", fine)
	}
}
