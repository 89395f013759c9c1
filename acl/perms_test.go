package acl_test

import (
	"slices"
	"strings"
	"testing"

	"lagoon/acl"
	"lagoon/api"
)

func writes(t *testing.T, p int8, want string) {
	t.Helper()
	if s, e := acl.Perms(p); s != want || e != api.OK {
		t.Errorf("P6.5: Perms(%d) = %q, %d, not %q", p, s, e, want)
	}
}

func parses(t *testing.T, s string, want int8) {
	t.Helper()
	if p, e := acl.ParsePerms(s); p != want || e != api.OK {
		t.Errorf("P6.5: ParsePerms(%q) = %d, %d, not %d", s, p, e, want)
	}
}

func parsesNot(t *testing.T, s string) {
	t.Helper()
	if p, e := acl.ParsePerms(s); p != 0 || e != api.ErrAcl {
		t.Errorf("P6.5: ParsePerms(%q) = %d, %d, not ErrAcl", s, p, e)
	}
}

func TestPermsExamples(t *testing.T) {
	writes(t, 31, "cdrwa")
	writes(t, 5, "cr")
	writes(t, 0, "-")
	parses(t, "rc", 5)
	parses(t, "-", 0)
	for _, s := range []string{"", "rr", "x", "-r"} {
		parsesNot(t, s)
	}
}

func TestPermsBits(t *testing.T) {
	writes(t, api.PermCreate, "c")
	writes(t, api.PermDelete, "d")
	writes(t, api.PermRead, "r")
	writes(t, api.PermWrite, "w")
	writes(t, api.PermAdmin, "a")
	writes(t, api.PermAll, "cdrwa")
}

// bitsOf is what a letter stands for.
func bitsOf(letter rune) int8 {
	switch letter {
	case 'c':
		return api.PermCreate
	case 'd':
		return api.PermDelete
	case 'r':
		return api.PermRead
	case 'w':
		return api.PermWrite
	case 'a':
		return api.PermAdmin
	}
	return 0
}

// Every int8: its letters in their order, or ErrAcl and no text; and back.
func TestPermsAll(t *testing.T) {
	for n := -128; n < 128; n++ {
		p := int8(n)
		if n < 0 || n > 31 {
			if s, e := acl.Perms(p); s != "" || e != api.ErrAcl {
				t.Errorf("P6.5: Perms(%d) = %q, %d, not ErrAcl", p, s, e)
			}
			continue
		}
		want := ""
		for _, letter := range "cdrwa" {
			if p&bitsOf(letter) != 0 {
				want += string(letter)
			}
		}
		if n == 0 {
			want = "-"
		}
		writes(t, p, want)
		parses(t, want, p)
	}
}

// orders calls for every text of up to so many of the letters, each as often as it comes.
func orders(letters string, most int, text string, each func(string)) {
	each(text)
	if most == 0 {
		return
	}
	for _, l := range letters {
		orders(letters, most-1, text+string(l), each)
	}
}

// All texts of up to six of the letters: in every order, and twice. What is written of them again is in order.
func TestParsePermsOrders(t *testing.T) {
	orders("cdrwa", 6, "", func(s string) {
		letters := []rune(s)
		slices.Sort(letters)
		if len(letters) == 0 || len(slices.Compact(letters)) < len(s) {
			parsesNot(t, s)
			return
		}
		var want int8
		for _, l := range s {
			want |= bitsOf(l)
		}
		parses(t, s, want)
		ordered := []rune(s)
		slices.SortFunc(ordered, func(a, b rune) int { return strings.IndexRune("cdrwa", a) - strings.IndexRune("cdrwa", b) })
		writes(t, want, string(ordered))
	})
}

// Texts with signs that are no letters, - among them.
func TestParsePermsStrange(t *testing.T) {
	orders("cr-xR", 4, "", func(s string) {
		if strings.ContainsAny(s, "xR") || strings.Contains(s, "-") && s != "-" {
			parsesNot(t, s)
		}
	})
	for b := range 256 {
		s := string([]byte{byte(b)})
		if s == "-" || b < 128 && bitsOf(rune(b)) != 0 {
			continue
		}
		for _, text := range []string{s, s + "r", "r" + s, "c" + s + "d"} {
			parsesNot(t, text)
		}
	}
	for _, s := range []string{"--", "-r", "r-", " ", " r", "r ", "r w", "r,w", "CDRWA", "cdrwax", "cdrwac", "cdrwa-", "0", "31", "read", "\u0430", "r\u0300", "\x00", "\xff", "c\xff", "\ufffd", "\uff43", "\u2013", strings.Repeat("cdrwa", 2)} {
		parsesNot(t, s)
	}
	for r := rune(128); r <= 0x10FFFF; r++ {
		if p, e := acl.ParsePerms(string(r)); p != 0 || e != api.ErrAcl {
			t.Errorf("P6.5: ParsePerms(%q) = %d, %d, not ErrAcl", string(r), p, e)
		}
	}
}
