package acl_test

import (
	"strconv"
	"strings"
	"testing"

	"lagoon/acl"
	"lagoon/api"
)

func idsAre(t *testing.T, want api.Errno, who ...string) {
	t.Helper()
	if got := acl.CheckIds(ids(who...)); got != want {
		t.Errorf("P6.1: CheckIds(%q) = %d, not %d", who, got, want)
	}
}

func listIs(t *testing.T, want api.Errno, l ...api.Entry) {
	t.Helper()
	if got := acl.Check(l); got != want {
		t.Errorf("P6.1: Check(%v) = %d, not %d", l, got, want)
	}
}

// bothAre holds an id against the places of a client and of an entry.
func bothAre(t *testing.T, who string, client, entries api.Errno) {
	t.Helper()
	idsAre(t, client, who)
	listIs(t, entries, entry(1, who))
}

func TestCheckExamples(t *testing.T) {
	for _, who := range []string{"ip:01.1.1.1", "ip:256.1.1.1", "world:anyone", "name:Ann"} {
		idsAre(t, api.ErrAcl, who)
	}
	idsAre(t, api.OK)
	listIs(t, api.ErrAcl, entry(0, "world:anyone"))
	listIs(t, api.ErrAcl, entry(1, "auth:x"))
	listIs(t, api.ErrAcl, entry(32, "world:anyone"))
	listIs(t, api.ErrAcl, entry(1, "name:a"), entry(1, "name:b"), entry(1, "name:c"), entry(1, "name:d"), entry(1, "name:e"))
	listIs(t, api.OK)
}

func TestNilAndEmptyAreTheSame(t *testing.T) {
	if e := acl.CheckIds(nil); e != api.OK {
		t.Errorf("R4: CheckIds(nil) = %d", e)
	}
	if e := acl.CheckIds([]api.Id{}); e != api.OK {
		t.Errorf("R4: CheckIds of no ids = %d", e)
	}
	if e := acl.Check(nil); e != api.OK {
		t.Errorf("R4: Check(nil) = %d", e)
	}
	if e := acl.Check([]api.Entry{}); e != api.OK {
		t.Errorf("R4: Check of no entries = %d", e)
	}
}

// Each scheme, where it may stand and where it may not; names of other schemes, and schemes that are none.
func TestSchemes(t *testing.T) {
	bothAre(t, "world:anyone", api.ErrAcl, api.OK)
	bothAre(t, "ip:1.2.3.4", api.OK, api.OK)
	bothAre(t, "ip:1.2.3.4/8", api.ErrAcl, api.OK)
	bothAre(t, "name:ann", api.OK, api.OK)
	bothAre(t, "auth:", api.ErrAcl, api.OK)
	for _, who := range []string{
		"world:", "world:any", "world:Anyone", "world:anyone ", "world:ann", "world:1.2.3.4",
		"auth:x", "auth:ann", "auth:anyone", "auth: ", "ip:", "ip:ann", "ip:anyone", "name:",
		":", ":anyone", ":ann", ":1.2.3.4", "World:anyone", "IP:1.2.3.4", "Name:ann", "Auth:", " name:ann", "name :ann", "worl:anyone", "authe:", "i:1.2.3.4", "digest:ann", "sasl:ann", "x509:ann", "\xff:ann",
	} {
		bothAre(t, who, api.ErrAcl, api.ErrAcl)
	}
}

func TestAddresses(t *testing.T) {
	for _, a := range []string{
		"0.0.0.0", "255.255.255.255", "255.0.0.0", "0.255.0.0", "0.0.255.0", "0.0.0.255", "1.2.3.4", "10.20.30.40", "9.99.100.199", "200.249.250.255",
	} {
		bothAre(t, "ip:"+a, api.OK, api.OK)
	}
	for _, a := range []string{
		"256.0.0.0", "0.256.0.0", "0.0.256.0", "0.0.0.256", "260.0.0.0", "300.1.1.1", "999.1.1.1", "1000.1.1.1", "1.1.1.1000",
		"00.0.0.0", "0.0.0.00", "01.1.1.1", "1.01.1.1", "1.1.1.01", "001.1.1.1", "1.1.1.000", "010.1.1.1",
		"", ".", "1", "1.", "1.1", "1.1.1", "1.1.1.", ".1.1.1", "...", "1..1.1", "1...1", "1.1.1.1.", ".1.1.1.1", "1.1.1.1.1", "1.1.1..1", "1.1.1.1.1.1.1.1", "....",
		"1,1,1,1", "1.1.1.1 ", " 1.1.1.1", "1. 1.1.1", "1.1.1.a", "a.1.1.1", "1.1.1.1a", "-1.1.1.1", "+1.1.1.1", "1.1.1.-0", "0x1.1.1.1", "1e1.1.1.1", "1_0.1.1.1", "1.1.1.1\n", "1.1.1.1\x00", "1:1:1:1", "::1", "1.1.1.\xd9\xa1", "1.1.1.:", "1.1.1.1:", "/1.1.1.1",
		"18446744073709551617.1.1.1", "4294967297.1.1.1", "257.1.1.1", "1.1.1.18446744073709551616",
	} {
		bothAre(t, "ip:"+a, api.ErrAcl, api.ErrAcl)
	}
}

// Every number up to 1100, in each of the four places, with a needless 0 and without.
func TestAddressNumbers(t *testing.T) {
	for n := range 1101 {
		for place := range 4 {
			parts := []string{"7", "7", "7", "7"}
			parts[place] = strconv.Itoa(n)
			bothAre(t, "ip:"+strings.Join(parts, "."), wantErr(n <= 255), wantErr(n <= 255))
			parts[place] = "0" + parts[place]
			bothAre(t, "ip:"+strings.Join(parts, "."), api.ErrAcl, api.ErrAcl)
		}
	}
}

func TestRanges(t *testing.T) {
	for n := range 400 {
		bothAre(t, "ip:1.2.3.4/"+strconv.Itoa(n), api.ErrAcl, wantErr(n <= 32))
		bothAre(t, "ip:1.2.3.4/0"+strconv.Itoa(n), api.ErrAcl, api.ErrAcl)
	}
	bothAre(t, "ip:0.0.0.0/0", api.ErrAcl, api.OK)
	bothAre(t, "ip:255.255.255.255/32", api.ErrAcl, api.OK)
	for _, r := range []string{
		"1.2.3.4/", "1.2.3.4/-1", "1.2.3.4/+1", "1.2.3.4/-0", "1.2.3.4/ 8", "1.2.3.4/8 ", "1.2.3.4 /8", "1.2.3.4//8", "1.2.3.4/8/8", "1.2.3.4/8/", "1.2.3.4/a", "1.2.3.4/3a", "1.2.3.4/8.", "1.2.3.4/255.0.0.0", "1.2.3.4\\8",
		"/8", "/", "1.2.3/8", "1.2.3./8", "1.2.3.4.5/8", "256.2.3.4/8", "01.2.3.4/8", "1/8", "1.2.3.4/4294967304", "1.2.3.4/18446744073709551624", "1.2.3.4/\x00", "1.2.3.4/:",
	} {
		bothAre(t, "ip:"+r, api.ErrAcl, api.ErrAcl)
	}
}

func TestNames(t *testing.T) {
	for n := range 60 {
		bothAre(t, "name:"+strings.Repeat("x", n), wantErr(n >= 1 && n <= 24), wantErr(n >= 1 && n <= 24))
	}
	bothAre(t, "name:"+strings.Repeat("\u00e9", 12), api.ErrAcl, api.ErrAcl)
	for _, n := range []string{"anyone", "1.2.3.4", ".", "..", "-", "_", "0", "a-b_c.9", "-a"} {
		bothAre(t, "name:"+n, api.OK, api.OK)
	}
}

// Every byte alone, and at the beginning, within and at the end of a name; then every code point.
func TestNameBytes(t *testing.T) {
	const may = "abcdefghijklmnopqrstuvwxyz0123456789._-"
	for b := range 256 {
		s := string([]byte{byte(b)})
		want := wantErr(strings.Contains(may, s) && b < 128)
		for _, n := range []string{s, s + "a", "a" + s, "a" + s + "b", "aa" + s + s + "b"} {
			who := api.Id{Scheme: "name", Name: n}
			if got := acl.CheckIds([]api.Id{who}); got != want {
				t.Errorf("P6.1: CheckIds of the name %q = %d", n, got)
			}
			if got := acl.Check([]api.Entry{{Perms: 1, Who: who}}); got != want {
				t.Errorf("P6.1: Check of the name %q = %d", n, got)
			}
		}
	}
	for r := rune(128); r <= 0x10FFFF; r++ {
		if got := acl.CheckIds([]api.Id{{Scheme: "name", Name: string(r)}}); got != api.ErrAcl {
			t.Errorf("P6.1: CheckIds of the name %q = %d", string(r), got)
		}
	}
}

func TestClientsIds(t *testing.T) {
	idsAre(t, api.OK, "name:a", "name:b", "name:c", "name:d")
	idsAre(t, api.OK, "ip:1.1.1.1", "ip:1.1.1.2", "ip:1.1.1.3", "name:1.1.1.1")
	idsAre(t, api.ErrAcl, "name:a", "name:b", "name:c", "name:d", "name:e")
	idsAre(t, api.ErrAcl, "name:a", "name:b", "name:c", "ip:1.1.1.1", "ip:1.1.1.2")
	four := []string{"name:a", "name:b", "ip:1.1.1.1", "ip:1.1.1.2"}
	for i := range four {
		for j := range four {
			with := append([]string{}, four...)
			with[j] = four[i]
			idsAre(t, wantErr(i == j), with...)
		}
		with := append([]string{}, four...)
		with[i] = "name:A"
		idsAre(t, api.ErrAcl, with...)
	}
}

func TestLists(t *testing.T) {
	listIs(t, api.OK, entry(1, "auth:"), entry(2, "auth:"), entry(31, "ip:1.2.3.4/0"), entry(4, "name:a"))
	listIs(t, api.OK, entry(1, "world:anyone"), entry(2, "world:anyone"), entry(3, "world:anyone"), entry(4, "world:anyone"))
	listIs(t, api.OK, entry(1, "ip:1.1.1.1"), entry(1, "ip:1.1.1.1/32"), entry(1, "name:1.1.1.1"), entry(1, "ip:1.1.1.1/0"))
	listIs(t, api.ErrAcl, entry(1, "auth:"), entry(2, "auth:"), entry(3, "auth:"), entry(4, "auth:"), entry(5, "auth:"))
	four := entries(entry(1, "auth:"), entry(1, "world:anyone"), entry(1, "name:a"), entry(1, "ip:1.1.1.1/8"))
	for i := range four {
		for j := range four {
			with := append([]api.Entry{}, four...)
			with[j] = four[i]
			listIs(t, wantErr(i == j), with...)
			with[j].Perms = 2
			listIs(t, api.OK, with...)
		}
		for _, wrong := range []api.Entry{entry(0, "name:b"), entry(1, "name:B"), {}} {
			with := append([]api.Entry{}, four...)
			with[i] = wrong
			listIs(t, api.ErrAcl, with...)
		}
	}
}

func TestEntryPerms(t *testing.T) {
	for p := -128; p < 128; p++ {
		for _, who := range []string{"world:anyone", "ip:1.1.1.1", "ip:1.1.1.1/8", "name:a", "auth:"} {
			listIs(t, wantErr(p >= 1 && p <= 31), entry(int8(p), who))
		}
	}
}

func TestLongInputs(t *testing.T) {
	m := 1 << 20
	for _, s := range []string{strings.Repeat("1", m), strings.Repeat(".", m), strings.Repeat("1.", m), strings.Repeat("/", m), strings.Repeat("0", m), "1.1.1.1/" + strings.Repeat("1", m)} {
		if acl.CheckIds(ids("ip:"+s)) != api.ErrAcl || acl.CheckIds(ids("name:"+s)) != api.ErrAcl || acl.Check(entries(entry(1, "ip:"+s))) != api.ErrAcl {
			t.Errorf("P6.1: %d bytes that begin with %q are taken", len(s), s[:9])
		}
		if p, e := acl.ParsePerms(s); p != 0 || e != api.ErrAcl {
			t.Errorf("P6.5: ParsePerms of %d bytes that begin with %q = %d, %d", len(s), s[:9], p, e)
		}
	}
	if acl.Check(make([]api.Entry, m)) != api.ErrAcl || acl.CheckIds(make([]api.Id, m)) != api.ErrAcl {
		t.Errorf("P6.1: a list of %d is taken", m)
	}
}

func TestCheckRandom(t *testing.T) {
	m := newMaker(1)
	for range 30000 {
		who, l := m.ids(), m.list()
		if got := acl.CheckIds(who); got != wantErr(idsLike(who)) {
			t.Errorf("P6.1: CheckIds(%q) = %d", who, got)
		}
		if got := acl.Check(l); got != wantErr(listLike(l)) {
			t.Errorf("P6.1: Check(%v) = %d", l, got)
		}
	}
}

// Texts of the bytes that addresses and ranges are made of.
func TestAddressTexts(t *testing.T) {
	m := newMaker(2)
	parts := []string{"0", "1", "25", "255", "256", "8", "32", "33", ".", ".", ".", "/", "00", "a", ""}
	for range 60000 {
		s := m.address()
		if m.IntN(2) == 0 {
			s += "/" + m.pick(parts...)
		}
		if m.IntN(2) == 0 {
			at := m.IntN(len(s) + 1)
			s = s[:at] + m.pick(parts...) + s[min(at+m.IntN(2), len(s)):]
		}
		who := id("ip:" + s)
		bothAre(t, "ip:"+s, wantErr(clientLike(who)), wantErr(entryLike(who)))
	}
}
