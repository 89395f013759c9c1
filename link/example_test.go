package link_test

import (
	"strings"
	"testing"

	"lagoon/api"
	"lagoon/link"
)

// three is the chapter's net ahead of its second example.
func three(t *testing.T) *pair {
	t.Helper()
	p := begun(t, 3)
	p.sends(t, 0, 1, "\x07\x08", api.OK)
	p.sends(t, 2, 0, "\x09", api.OK)
	p.has(t, of(0, 1, "\x07\x08"), of(2, 0, "\x09"))
	p.doubles(t, 0, api.OK)
	p.has(t, of(0, 1, "\x07\x08"), of(2, 0, "\x09"), of(0, 1, "\x07\x08"))
	p.spoils(t, 0, 1, 1, api.OK)
	p.has(t, sent{0, 1, "\x07\x09", true}, of(2, 0, "\x09"), of(0, 1, "\x07\x08"))
	return p
}

// has holds a net against what the chapter says itself, beside the model.
func (p *pair) has(t *testing.T, want ...sent) {
	t.Helper()
	if p.n.Len() != len(want) {
		t.Errorf("P22.4: Len = %d, not %d", p.n.Len(), len(want))
	}
	for i, m := range seenAll(p.n.All()) {
		if i >= len(want) || m != want[i] {
			t.Errorf("P22.4: at %d there is %v, of %v", i, m, want)
		}
	}
}

func TestFirstExample(t *testing.T) {
	p := three(t)
	p.spoils(t, 0, 0, 1, api.ErrLink)
	p.spoils(t, 1, 1, 1, api.ErrArg)
	p.spoils(t, 1, 0, 0, api.ErrArg)
	p.spoils(t, 3, 0, 1, api.ErrLink)
}

func TestSecondExample(t *testing.T) {
	p := three(t)
	if m := seen(p.takes(t, 0, api.OK)); m != (sent{0, 1, "\x07\x09", true}) {
		t.Errorf("P22.3: Take(0) = %v", m)
	}
	p.has(t, of(2, 0, "\x09"), of(0, 1, "\x07\x08"))
	p.takes(t, 2, api.ErrLink)
	p = three(t)
	p.doubles(t, 0, api.OK)
	if m := seen(p.takes(t, 3, api.OK)); m != (sent{0, 1, "\x07\x09", true}) {
		t.Errorf("P22.3: the copy of a spoilt one is %v", m)
	}
}

func TestThirdExample(t *testing.T) {
	p := begun(t, 3)
	p.sends(t, 0, 0, "a", api.ErrArg)
	p.sends(t, 0, 3, "a", api.ErrArg)
	p.sends(t, -1, 0, "a", api.ErrArg)
	p.sends(t, 0, 1, "", api.ErrArg)
	p.sends(t, 0, 1, strings.Repeat("a", 8193), api.ErrArg)
	for _, servers := range []int{0, 8} {
		if n, e := link.New(servers); n != nil || e != api.ErrArg {
			t.Errorf("P22.1: New(%d) = %v, %d", servers, n, e)
		}
	}
}
