package link_test

import (
	"strings"
	"testing"

	"lagoon/api"
)

// bounds are numbers that are no place of so many.
func bounds(many int) []int { return append([]int{many, many + 1, -many, -many - 1}, noPlaces...) }

// TestTakeOfEachPlace: those behind it move up, of lists of several lengths; the order stays.
func TestTakeOfEachPlace(t *testing.T) {
	letters := strings.Split("abcdefghij", "")
	for many := 1; many <= len(letters); many++ {
		for place := range many {
			p := with(t, letters[:many]...)
			if m := p.takes(t, place, api.OK); string(m.Bytes) != letters[place] {
				t.Errorf("P22.3: of %d, Take(%d) = %q", many, place, m.Bytes)
			}
			left := ""
			for _, m := range p.n.All() {
				left += string(m.Bytes)
			}
			if want := strings.Join(letters[:many], ""); left != want[:place]+want[place+1:] {
				t.Errorf("P22.3: of %s, Take(%d) leaves %s", want, place, left)
			}
			p.takes(t, many-1, api.ErrLink)
		}
	}
}

// TestTakeOfAll: from the first on, from the last on, from the middle on.
func TestTakeOfAll(t *testing.T) {
	for _, next := range []func(many int) int{
		func(int) int { return 0 },
		func(many int) int { return many - 1 },
		func(many int) int { return many / 2 },
		func(many int) int { return many * 7 % 3 % many },
	} {
		p := with(t, five()...)
		for many := 5; many > 0; many-- {
			p.takes(t, next(many), api.OK)
		}
		p.lacks(t, 0)
		p.has(t)
	}
}

// TestNoPlace: below the first and behind the last, of nothing too; and nothing changes.
func TestNoPlace(t *testing.T) {
	for many := range 6 {
		p := with(t, five()[:many]...)
		for _, place := range bounds(many) {
			if place != 0 || many == 0 {
				p.lacks(t, place)
			}
		}
		if many == 0 {
			continue
		}
		p.spoils(t, many-1, 0, 1, api.OK)
		p.lacks(t, many)
		p.doubles(t, many-1, api.OK)
		p.lacks(t, many+1)
		p.takes(t, 0, api.OK)
		p.takes(t, 0, api.OK)
		p.lacks(t, many-1)
	}
}

// TestTakeTellsAll: from whom, to whom, its bytes, whether it is spoilt.
func TestTakeTellsAll(t *testing.T) {
	for from := range int8(7) {
		for to := range int8(7) {
			if from == to {
				continue
			}
			p := begun(t, 7)
			p.sends(t, from, to, "xyz", api.OK)
			p.doubles(t, 0, api.OK)
			p.spoils(t, 1, 2, 2, api.OK)
			if m := seen(p.takes(t, 1, api.OK)); m != (sent{from, to, "xyx", true}) {
				t.Errorf("P22.3: Take of a spoilt one = %v", m)
			}
			if m := seen(p.takes(t, 0, api.OK)); m != (sent{from, to, "xyz", false}) {
				t.Errorf("P22.3: Take = %v", m)
			}
		}
	}
}

// TestDoubleOfEachPlace: the copy stands behind all others, which stay where they are.
func TestDoubleOfEachPlace(t *testing.T) {
	for many := 1; many <= 5; many++ {
		for place := range many {
			p := with(t, five()[:many]...)
			ahead := seenAll(p.n.All())
			p.doubles(t, place, api.OK)
			p.has(t, append(ahead, ahead[place])...)
			p.doubles(t, many, api.OK)
			p.has(t, append(ahead, ahead[place], ahead[place])...)
		}
	}
}

// TestDoubleOfSpoilt: the copy is as it is; it is spoilt, and can't be spoilt again.
func TestDoubleOfSpoilt(t *testing.T) {
	for place := range 5 {
		p := with(t, five()...)
		p.spoils(t, place, 0, 0x55, api.OK)
		want := seenAll(p.n.All())[place]
		p.doubles(t, place, api.OK)
		p.spoils(t, 5, 0, 0x55, api.ErrLink)
		p.spoils(t, place, 0, 0x55, api.ErrLink)
		if m := seen(p.takes(t, 5, api.OK)); !m.spoilt || m != want {
			t.Errorf("P22.3: the copy of %v is %v", want, m)
		}
	}
}

// TestDoubleIsItsOwn: Spoil of one of the two leaves the other, whichever is spoilt; and Take of one leaves the other.
func TestDoubleIsItsOwn(t *testing.T) {
	for place := range 5 {
		for _, spoilt := range []int{place, 5, 6} {
			p := with(t, five()...)
			p.doubles(t, place, api.OK)
			p.doubles(t, 5, api.OK)
			p.spoils(t, spoilt, 0, 0xF0, api.OK)
			for i, m := range p.n.All() {
				if m.Spoilt != (i == spoilt) {
					t.Errorf("P22.3: of %d and its copies 5 and 6, %d was spoilt, and %d is: %v", place, spoilt, i, m.Spoilt)
				}
			}
			p.takes(t, spoilt, api.OK)
			p.has(t, seenAll(with(t, five()...).copied(t, place, spoilt))...)
		}
	}
}

// copied is what is left of a net where one was doubled twice, and one of these three then taken.
func (p *pair) copied(t *testing.T, place, taken int) []api.Message {
	t.Helper()
	p.doubles(t, place, api.OK)
	p.doubles(t, place, api.OK)
	p.takes(t, taken, api.OK)
	return p.n.All()
}
