package acl_test

import (
	"strconv"
	"testing"

	"lagoon/acl"
)

func meetsIs(t *testing.T, entry, who string, want bool) {
	t.Helper()
	if got := acl.Meets(id(entry), id(who)); got != want {
		t.Errorf("P6.4: Meets(%s, %s) = %t", entry, who, got)
	}
}

func TestMeetsExamples(t *testing.T) {
	meetsIs(t, "ip:10.1.2.3/16", "ip:10.1.9.9", true)
	meetsIs(t, "ip:10.1.2.3/16", "ip:10.2.2.3", false)
	meetsIs(t, "ip:10.1.2.3/0", "ip:9.9.9.9", true)
	meetsIs(t, "ip:10.1.2.3", "ip:10.1.2.3", true)
	meetsIs(t, "ip:10.1.2.3/32", "ip:10.1.2.3", true)
	meetsIs(t, "ip:10.1.2.3", "ip:10.1.2.3/32", false)
	meetsIs(t, "world:anyone", "name:ann", true)
	meetsIs(t, "auth:", "name:ann", false)
	meetsIs(t, "name:ann", "name:ann", true)
}

// Each kind of an entry's id against each kind of a client's, and against what is none.
func TestMeetsKinds(t *testing.T) {
	for _, x := range []struct {
		entry                         string
		ann, bob, home, away, looking bool
	}{
		{"world:anyone", true, true, true, true, true},
		{"ip:1.1.1.1", false, false, true, false, false},
		{"ip:1.1.1.1/8", false, false, true, false, false},
		{"ip:1.1.1.1/0", false, false, true, true, false},
		{"name:ann", true, false, false, false, false},
		{"name:1.1.1.1", false, false, false, false, true},
		{"auth:", false, false, false, false, false},
		{"world:anybody", false, false, false, false, false},
		{"auth:ann", false, false, false, false, false},
		{"ip:1.1.1.1/33", false, false, false, false, false},
		{"ip:01.1.1.1", false, false, false, false, false},
		{"digest:ann", false, false, false, false, false},
		{":", false, false, false, false, false},
	} {
		meetsIs(t, x.entry, "name:ann", x.ann)
		meetsIs(t, x.entry, "name:bob", x.bob)
		meetsIs(t, x.entry, "ip:1.1.1.1", x.home)
		meetsIs(t, x.entry, "ip:2.1.1.1", x.away)
		meetsIs(t, x.entry, "name:1.1.1.1", x.looking)
		for _, who := range []string{"world:anyone", "auth:", "name:", "name:Ann", "ip:1.1.1.1/8", "ip:1.1.1.1/32", "ip:1.1.1", "ip:256.1.1.1", "digest:ann", ":", ":ann", x.entry + "X"} {
			meetsIs(t, x.entry, who, false)
		}
	}
}

// Of each length of a range: an address that differs in one bit is met just where that bit does not count.
func TestMeetsBits(t *testing.T) {
	dotted := func(word uint32) string {
		var s string
		for shift := 24; shift >= 0; shift -= 8 {
			s += "." + strconv.Itoa(int(word>>shift&255))
		}
		return s[1:]
	}
	for _, base := range []uint32{0, 0xFFFFFFFF, 0x0A010203, 0x80000001, 0x7F00FF80} {
		for count := range 33 {
			entry := "ip:" + dotted(base) + "/" + strconv.Itoa(count)
			meetsIs(t, entry, "ip:"+dotted(base), true)
			for bit := range 32 {
				meetsIs(t, entry, "ip:"+dotted(base^1<<(31-bit)), bit >= count)
			}
			meetsIs(t, entry, "ip:"+dotted(^base), count == 0)
		}
		for bit := range 32 {
			meetsIs(t, "ip:"+dotted(base), "ip:"+dotted(base^1<<bit), false)
		}
	}
	meetsIs(t, "ip:10.1.2.3/33", "ip:10.1.2.3", false)
	meetsIs(t, "ip:10.1.2.3/08", "ip:10.1.2.3", false)
	meetsIs(t, "ip:10.1.2.3/17", "ip:10.1.130.3", false)
	meetsIs(t, "ip:10.1.2.3/31", "ip:10.1.2.2", true)
	meetsIs(t, "ip:10.1.2.3/31", "ip:10.1.2.1", false)
	meetsIs(t, "ip:10.1.2.3/1", "ip:127.0.0.0", true)
	meetsIs(t, "ip:10.1.2.3/1", "ip:128.0.0.0", false)
}

func TestMeetsRandom(t *testing.T) {
	m := newMaker(3)
	for range 50000 {
		entry, who := m.whose(), m.client()
		if got := acl.Meets(entry, who); got != wantMeets(entry, who) {
			t.Errorf("P6.4: Meets(%q, %q) = %t", entry, who, got)
		}
	}
}
