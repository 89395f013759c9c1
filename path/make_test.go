package path_test

import (
	"math/rand/v2"
	"slices"
	"strings"

	"lagoon/api"
)

// char is the code point that begins at a place of a text, and its bytes: 0 bytes, if none begins there. It goes by the form of UTF-8 alone.
func char(s string, at int) (point, size int) {
	lead := int(s[at])
	switch {
	case lead < 0x80:
		return lead, 1
	case lead >= 0xC0 && lead < 0xE0:
		point, size = lead-0xC0, 2
	case lead >= 0xE0 && lead < 0xF0:
		point, size = lead-0xE0, 3
	case lead >= 0xF0 && lead < 0xF8:
		point, size = lead-0xF0, 4
	default:
		return 0, 0
	}
	if at+size > len(s) {
		return 0, 0
	}
	for _, b := range []byte(s[at+1 : at+size]) {
		if b < 0x80 || b > 0xBF {
			return 0, 0
		}
		point = point*64 + int(b) - 0x80
	}
	least := []int{2: 0x80, 3: 0x800, 4: 0x10000}[size]
	if point < least || point > 0x10FFFF || point >= 0xD800 && point <= 0xDFFF {
		return 0, 0
	}
	return point, size
}

// barred are the code points that a name may not have, first and last of each range.
var barred = [][2]int{{0, 0x1F}, {0x7F, 0x9F}, {0xE000, 0xF8FF}, {0xFFF0, 0xFFFF}}

func mayHave(point int) bool {
	return !slices.ContainsFunc(barred, func(x [2]int) bool { return point >= x[0] && point <= x[1] })
}

// faultsOf are the places of a text's faults, as the chapter lists them one by one.
func faultsOf(p string) []int {
	if p == "/" {
		return nil
	}
	var at []int
	if p == "" || p[0] != '/' {
		at = append(at, 0)
	}
	begin := 0
	for _, part := range strings.Split(p, "/") {
		if begin > 0 && slices.Contains([]string{"", ".", ".."}, part) {
			at = append(at, begin)
		}
		if len(part) > api.MaxPart {
			at = append(at, begin+api.MaxPart)
		}
		begin += len(part) + 1
	}
	for i := 0; i < len(p); {
		point, size := char(p, i)
		if size == 0 || !mayHave(point) {
			at = append(at, i)
			break
		}
		i += size
	}
	if len(p) > api.MaxPath {
		at = append(at, api.MaxPath)
	}
	return at
}

func pathLike(p string) bool { return len(faultsOf(p)) == 0 }

func nameLike(s string) bool { return pathLike("/"+s) && s != "" && !strings.Contains(s, "/") }

// wantCheck is what Check has to answer.
func wantCheck(p string) (int, api.Errno) {
	if at := faultsOf(p); len(at) > 0 {
		return slices.Min(at), api.ErrPath
	}
	return 0, api.OK
}

// wantAbove are the paths above a text: those of its beginnings ahead of a slash that are paths, and the root.
func wantAbove(p string) []string {
	if !pathLike(p) || p == "/" {
		return nil
	}
	l := []string{"/"}
	for i := 1; i < len(p); i++ {
		if p[i] == '/' {
			l = append(l, p[:i])
		}
	}
	return l
}

// maker makes texts that are paths, or nearly.
type maker struct{ *rand.Rand }

func newMaker(seed uint64) maker { return maker{rand.New(rand.NewPCG(seed, 5))} }

var pieces = []string{"a", "b", "xyz", ".", "..", "...", "-", " ", "~", "é", "\u00a0", "€", "\ud7ff", "\uf900", "\uffef", "\U00010000", "\U0010ffff", "0123456789"}

// wrong are texts that no name has, a slash aside.
var wrong = []string{"\x00", "\x1f", "\x7f", "\u0080", "\u009f", "\ue000", "\uf8ff", "\ufff0", "\ufffd", "\uffff", "\x80", "\xbf", "\xc3", "\xc0\xaf", "\xe2\x82", "\xed\xa0\x80", "\xf4\x90\x80\x80", "\xff"}

func (m maker) pick(l []string) string { return l[m.IntN(len(l))] }

// text has slashes and pieces by chance; with odds of one in so many a wrong piece.
func (m maker) text(most, odds int) string {
	s := "/"
	for range m.IntN(most) {
		switch {
		case m.IntN(3) == 0:
			s += "/"
		case m.IntN(odds) == 0:
			s += m.pick(wrong)
		default:
			s += m.pick(pieces)
		}
	}
	return s
}

func (m maker) name() string {
	for {
		s := ""
		for range 1 + m.IntN(4) {
			s += m.pick(pieces)
		}
		if nameLike(s) {
			return s
		}
	}
}

// path is one, the root now and then.
func (m maker) path() string {
	for {
		s := ""
		for range m.IntN(6) {
			s += "/" + m.name()
		}
		if s == "" {
			return "/"
		}
		if pathLike(s) {
			return s
		}
	}
}
