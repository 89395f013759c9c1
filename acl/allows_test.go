package acl_test

import (
	"slices"
	"testing"

	"lagoon/acl"
	"lagoon/api"
)

func allowsIs(t *testing.T, l []api.Entry, perms int8, who []api.Id, want bool) {
	t.Helper()
	if got := acl.Allows(l, perms, who); got != want {
		t.Errorf("P6.3: Allows(%v, %d, %q) = %t", l, perms, who, got)
	}
}

func TestAllowsExamples(t *testing.T) {
	l := entries(entry(1, "world:anyone"), entry(2, "name:ann"))
	allowsIs(t, l, 3, ids("name:ann"), true)
	allowsIs(t, l, 3, nil, false)
	allowsIs(t, l, 1, nil, true)
	allowsIs(t, l, 0, nil, true)
	allowsIs(t, nil, 0, nil, false)
	allowsIs(t, entries(entry(1, "auth:")), 0, nil, false)
}

// Every entry's permissions against all that may be asked for, and what may not.
func TestAllowsPerms(t *testing.T) {
	for has := int8(1); has <= 31; has++ {
		open, anns := entries(entry(has, "world:anyone")), entries(entry(has, "name:ann"))
		for p := -128; p < 128; p++ {
			asked := int8(p)
			within := p >= 0 && p <= 31 && asked&has == asked
			for _, who := range [][]api.Id{nil, {}, ids("name:ann"), ids("ip:1.1.1.1")} {
				allowsIs(t, open, asked, who, within)
			}
			allowsIs(t, anns, asked, ids("name:ann"), within)
			allowsIs(t, anns, asked, ids("ip:1.1.1.1", "name:bob", "name:ann"), within)
			allowsIs(t, anns, asked, ids("name:bob"), p == 0)
			allowsIs(t, anns, asked, nil, p == 0)
		}
	}
}

// Bits may come from several entries, met by several ids.
func TestAllowsTogether(t *testing.T) {
	l := entries(entry(1, "name:ann"), entry(6, "name:bob"), entry(8, "ip:10.0.0.0/8"), entry(16, "world:anyone"))
	allowsIs(t, l, 31, ids("name:ann", "name:bob", "ip:10.9.9.9"), true)
	allowsIs(t, l, 31, ids("ip:10.9.9.9", "name:bob", "name:ann"), true)
	allowsIs(t, l, 31, ids("name:ann", "name:bob"), false)
	allowsIs(t, l, 23, ids("name:ann", "name:bob"), true)
	allowsIs(t, l, 31, ids("name:ann", "name:bob", "ip:11.9.9.9"), false)
	allowsIs(t, l, 24, ids("ip:10.0.0.1"), true)
	allowsIs(t, l, 25, ids("ip:10.0.0.1"), false)
	allowsIs(t, l, 16, nil, true)
	allowsIs(t, l, 1, nil, false)
	allowsIs(t, l, 2, ids("name:ann"), false)
	allowsIs(t, l, 3, ids("name:ann", "ip:1.1.1.1"), false)
}

func TestAllowsWrong(t *testing.T) {
	fine, ann := entries(entry(31, "world:anyone")), ids("name:ann")
	for p := int8(0); p <= 31; p++ {
		allowsIs(t, fine, p, ann, true)
		for _, l := range [][]api.Entry{
			nil, {}, {entry(31, "auth:")}, append(entries(entry(31, "auth:")), fine...), append(entries(entry(31, "world:anyone")), entry(1, "auth:")), append(entries(entry(31, "world:anyone")), entry(31, "world:anyone")),
			append(entries(entry(31, "world:anyone")), entry(0, "name:a")), append(entries(entry(31, "world:anyone")), entry(32, "name:a")), append(entries(entry(31, "world:anyone")), entry(1, "name:A")), append(entries(entry(31, "world:anyone")), entry(1, "auth:x")),
			append(three(), entry(31, "world:anyone"), entry(4, "name:x")), {entry(31, "world:any")}, {{}},
		} {
			allowsIs(t, l, p, ann, false)
			allowsIs(t, l, p, nil, false)
		}
		for _, who := range [][]api.Id{ids("name:Ann"), ids("world:anyone"), ids("auth:"), ids("name:ann", "name:ann"), ids("ip:1.1.1.1/8"), ids("name:a", "name:b", "name:c", "name:d", "name:e"), ids("name:ann", "name:"), {{}}} {
			allowsIs(t, fine, p, who, false)
		}
	}
	for _, p := range []int8{-128, -127, -31, -1, 32, 33, 63, 64, 127} {
		allowsIs(t, fine, p, ann, false)
	}
}

func TestAllowsRandom(t *testing.T) {
	m := newMaker(5)
	told := map[bool]int{}
	for range 50000 {
		l, who := m.list(), m.ids()
		l = slices.DeleteFunc(l, func(e api.Entry) bool { return e.Who == id("auth:") && !m.odd() })
		p := m.perms() & m.perms()
		want := wantAllows(l, p, who)
		allowsIs(t, l, p, who, want)
		told[want]++
	}
	if told[true] < 5000 || told[false] < 5000 {
		t.Errorf("P6.3: %v: the test tells too little", told)
	}
}
