package acl_test

import (
	"slices"
	"testing"

	"lagoon/acl"
	"lagoon/api"
)

func TestAllowsBitByBit(t *testing.T) {
	m := newMaker(6)
	for range 2500 {
		l, who := m.list(), m.ids()
		if !fixedLike(l) || !idsLike(who) {
			continue
		}
		for p := int8(0); p <= 31; p++ {
			each := true
			for bit := int8(1); bit <= 16; bit *= 2 {
				each = each && (p&bit == 0 || acl.Allows(l, bit, who))
			}
			allowsIs(t, l, p, who, each)
		}
	}
}

func TestMoreNeverAllowsLess(t *testing.T) {
	m := newMaker(7)
	for range 20000 {
		l, who := m.list(), m.ids()
		wider, whoMore := append(slices.Clone(l), api.Entry{Perms: m.perms(), Who: m.whose()}), append(slices.Clone(who), m.client())
		p := m.perms() & m.perms()
		if !acl.Allows(l, p, who) {
			continue
		}
		if fixedLike(wider) && !acl.Allows(wider, p, who) {
			t.Errorf("P6.3: %v allows %d to %q, and %v does not", l, p, who, wider)
		}
		if idsLike(whoMore) && !acl.Allows(l, p, whoMore) {
			t.Errorf("P6.3: %v allows %d to %q, and not to %q", l, p, who, whoMore)
		}
	}
}

func TestFixAgain(t *testing.T) {
	m := newMaker(8)
	for range 20000 {
		fixed, e := acl.Fix(m.list(), m.ids())
		if e != api.OK {
			continue
		}
		if other := m.ids(); idsLike(other) {
			fixes(t, fixed, other, fixed...)
		}
		fixes(t, fixed, nil, fixed...)
		if acl.Check(fixed) != api.OK || !acl.Allows(fixed, 0, nil) {
			t.Errorf("P6.2: Fix answers %v, which is not fixed", fixed)
		}
	}
}

// Who makes a node may do by its auth entries what these say, with each of their names alone.
func TestAuthAllowsItsMaker(t *testing.T) {
	m := newMaker(9)
	for range 20000 {
		l, who := m.list(), m.ids()
		fixed, e := acl.Fix(l, who)
		if e != api.OK {
			continue
		}
		for _, a := range l {
			for _, w := range who {
				if a.Who == id("auth:") && w.Scheme == "name" {
					allowsIs(t, fixed, a.Perms, []api.Id{w}, true)
				}
			}
		}
	}
}

// What the other calls are handed stays as it was, too.
func TestArgumentsStay(t *testing.T) {
	m := newMaker(10)
	for range 5000 {
		l, who := m.list(), m.ids()
		list, people := slices.Clone(l[:cap(l)]), slices.Clone(who[:cap(who)])
		acl.Check(l)
		acl.CheckIds(who)
		acl.Allows(l, 31, who)
		acl.Fix(l, who)
		if !slices.Equal(l[:cap(l)], list) || !slices.Equal(who[:cap(who)], people) {
			t.Fatalf("R5: what was handed in has changed: %v, %v", l[:cap(l)], who[:cap(who)])
		}
	}
}
