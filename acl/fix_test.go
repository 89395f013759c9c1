package acl_test

import (
	"slices"
	"testing"

	"lagoon/acl"
	"lagoon/api"
)

func fixes(t *testing.T, l []api.Entry, who []api.Id, want ...api.Entry) {
	t.Helper()
	if got, e := acl.Fix(l, who); !slices.Equal(got, want) || e != api.OK {
		t.Errorf("P6.2: Fix(%v, %q) = %v, %d, not %v", l, who, got, e, want)
	}
}

func fixesNot(t *testing.T, l []api.Entry, who []api.Id) {
	t.Helper()
	if got, e := acl.Fix(l, who); len(got) != 0 || e != api.ErrAcl {
		t.Errorf("P6.2: Fix(%v, %q) = %v, %d, not ErrAcl", l, who, got, e)
	}
}

// three are entries of a name that asks for nothing else here.
func three() []api.Entry { return entries(entry(1, "name:x"), entry(2, "name:x"), entry(3, "name:x")) }

func TestFixExamples(t *testing.T) {
	fixes(t, entries(entry(31, "auth:"), entry(1, "world:anyone")), ids("name:ann", "ip:1.1.1.1", "name:bob"), entry(31, "name:ann"), entry(31, "name:bob"), entry(1, "world:anyone"))
	fixesNot(t, entries(entry(31, "auth:")), ids("ip:1.1.1.1"))
	fixes(t, nil, nil, entry(31, "world:anyone"))
	fixes(t, entries(entry(1, "auth:"), entry(1, "name:ann")), ids("name:ann"), entry(1, "name:ann"))
	fixesNot(t, append(three(), entry(1, "auth:")), ids("name:ann", "name:bob"))
}

func TestFixOfNone(t *testing.T) {
	for _, l := range [][]api.Entry{nil, {}} {
		for _, who := range [][]api.Id{nil, {}, ids("name:ann"), ids("ip:1.1.1.1"), ids("name:a", "name:b", "name:c", "name:d")} {
			fixes(t, l, who, entry(31, "world:anyone"))
		}
		fixesNot(t, l, ids("name:Ann"))
		fixesNot(t, l, ids("world:anyone"))
		fixesNot(t, l, ids("name:a", "name:a"))
	}
}

func TestFixWithoutAuth(t *testing.T) {
	l := entries(entry(1, "world:anyone"), entry(2, "name:bob"), entry(1, "name:bob"), entry(31, "ip:1.2.3.4/8"))
	for _, who := range [][]api.Id{nil, ids("name:ann"), ids("name:bob"), ids("ip:1.2.3.4")} {
		fixes(t, l, who, l...)
	}
	fixes(t, l[3:], nil, l[3])
}

func TestFixAuth(t *testing.T) {
	one := entries(entry(5, "auth:"))
	fixes(t, one, ids("name:ann"), entry(5, "name:ann"))
	fixes(t, one, ids("ip:1.1.1.1", "name:ann"), entry(5, "name:ann"))
	fixes(t, one, ids("name:d", "name:c", "name:b", "name:a"), entry(5, "name:d"), entry(5, "name:c"), entry(5, "name:b"), entry(5, "name:a"))
	fixes(t, one, ids("name:1.1.1.1", "ip:1.1.1.1"), entry(5, "name:1.1.1.1"))
	fixesNot(t, one, nil)
	fixesNot(t, one, ids("ip:1.1.1.1", "ip:1.1.1.2"))
	fixesNot(t, append(three(), entry(1, "auth:")), nil)
	two := entries(entry(1, "auth:"), entry(2, "auth:"))
	fixes(t, two, ids("name:ann", "name:bob"), entry(1, "name:ann"), entry(1, "name:bob"), entry(2, "name:ann"), entry(2, "name:bob"))
	fixesNot(t, two, ids("name:ann", "name:bob", "name:cy"))
	around := entries(entry(4, "name:x"), entry(1, "auth:"), entry(8, "ip:1.1.1.1"))
	fixes(t, around, ids("name:b", "name:a"), entry(4, "name:x"), entry(1, "name:b"), entry(1, "name:a"), entry(8, "ip:1.1.1.1"))
	fixesNot(t, around, ids("name:b", "name:a", "name:c"))
}

func TestFixDoubles(t *testing.T) {
	fixes(t, entries(entry(1, "name:ann"), entry(1, "auth:")), ids("name:ann"), entry(1, "name:ann"))
	fixes(t, entries(entry(1, "name:bob"), entry(1, "auth:"), entry(1, "name:ann")), ids("name:ann", "name:bob", "name:cy"), entry(1, "name:bob"), entry(1, "name:ann"), entry(1, "name:cy"))
	fixes(t, entries(entry(1, "name:ann"), entry(2, "auth:")), ids("name:ann"), entry(1, "name:ann"), entry(2, "name:ann"))
	fixes(t, entries(entry(1, "ip:1.1.1.1"), entry(1, "auth:")), ids("name:1.1.1.1"), entry(1, "ip:1.1.1.1"), entry(1, "name:1.1.1.1"))
	fixes(t, append(three(), entry(1, "auth:")), ids("name:x"), three()...)
	fixes(t, append(three(), entry(1, "auth:")), ids("name:x", "name:y"), append(three(), entry(1, "name:y"))...)
	fixes(t, append(three(), entry(1, "auth:")), ids("name:y"), append(three(), entry(1, "name:y"))...)
	fixes(t, entries(entry(1, "auth:"), entry(1, "name:b"), entry(1, "name:a"), entry(1, "name:c")), ids("name:a", "name:b", "name:c", "name:d"), entry(1, "name:a"), entry(1, "name:b"), entry(1, "name:c"), entry(1, "name:d"))
}

func TestFixWrong(t *testing.T) {
	fine := entries(entry(1, "world:anyone"))
	fixes(t, fine, ids("name:ann"), fine...)
	for _, who := range [][]api.Id{ids("name:Ann"), ids("name:"), ids("ip:1.1.1"), ids("world:anyone"), ids("auth:"), ids("name:a", "name:a"), ids("name:a", "name:b", "name:c", "name:d", "name:e"), {{}}} {
		fixesNot(t, fine, who)
		fixesNot(t, entries(entry(1, "auth:")), append(ids("name:ann"), who...))
	}
	for _, l := range [][]api.Entry{
		{entry(0, "world:anyone")}, {entry(32, "world:anyone")}, {entry(-1, "name:a")}, {entry(1, "auth:x")}, {entry(1, "name:A")}, {{}},
		append(fine, fine...), append(three(), entry(4, "name:x"), entry(5, "name:x")), {entry(1, "auth:"), entry(1, "auth:")},
	} {
		fixesNot(t, l, ids("name:ann"))
		fixesNot(t, l, nil)
	}
}

func TestFixIsNewMemory(t *testing.T) {
	for _, l := range [][]api.Entry{three(), append(three(), entry(7, "auth:")), entries(entry(7, "auth:")), {}} {
		room := append(make([]api.Entry, 0, 8), l...)
		spare := room[:8]
		who := append(make([]api.Id, 0, 6), ids("ip:1.1.1.1", "name:ann")...)
		spareWho := who[:6]
		got, e := acl.Fix(room, who)
		if e != api.OK {
			t.Fatalf("P6.2: Fix(%v) = %d", l, e)
		}
		kept := slices.Clone(got)
		for i := range spare[len(l):] {
			if spare[len(l)+i] != (api.Entry{}) {
				t.Errorf("R5: Fix wrote behind the list %v", l)
			}
		}
		if !slices.Equal(room, l) || !slices.Equal(spareWho, append(ids("ip:1.1.1.1", "name:ann"), make([]api.Id, 4)...)) {
			t.Errorf("R5: Fix changed what was handed in: %v, %v", room, spareWho)
		}
		for i := range spare {
			spare[i] = entry(9, "name:turned")
		}
		for i := range spareWho {
			spareWho[i] = id("name:turned")
		}
		if !slices.Equal(got, kept) {
			t.Errorf("R5: what Fix answered hangs on what was handed in: %v", got)
		}
		again, _ := acl.Fix(l, ids("ip:1.1.1.1", "name:ann"))
		all := got[:cap(got)]
		for i := range all {
			all[i] = entry(10, "name:other")
		}
		if !slices.Equal(again, kept) || slices.Contains(spare, entry(10, "name:other")) {
			t.Errorf("R5: two answers of Fix, or one and its list, share memory")
		}
	}
}

func TestFixRandom(t *testing.T) {
	m := newMaker(4)
	fine := 0
	for range 50000 {
		l, who := m.list(), m.ids()
		want, e := wantFix(l, who)
		if e != api.OK {
			fixesNot(t, l, who)
			continue
		}
		fine++
		fixes(t, l, who, want...)
		if !fixedLike(want) {
			t.Fatalf("the test itself asks for %v, which is not fixed", want)
		}
	}
	if fine < 10000 {
		t.Errorf("P6.2: only %d of the lists could be fixed: the test tells too little", fine)
	}
}
