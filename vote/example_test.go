package vote_test

import (
	"testing"

	"lagoon/api"
	"lagoon/vote"
)

func TestFirstExample(t *testing.T) {
	above(t, x(0, 2, z(1, 1), 0), x(2, 1, z(1, 9), 0))
	above(t, x(0, 1, z(1, 2), 0), x(2, 1, z(1, 1), 0))
	above(t, x(2, 1, z(1, 1), 0), x(0, 1, z(1, 1), 0))
}

func TestSecondExample(t *testing.T) {
	s := made(t, four())
	for _, me := range []int8{3, 4, -1} {
		if v, e := vote.New(s, me, 1, z(1, 5)); v != nil || e != api.ErrArg {
			t.Errorf("P21.2: New(s, %d, ..) = %v, %d", me, v, e)
		}
	}
	if v, e := vote.New(nil, 0, 1, z(1, 5)); v != nil || e != api.ErrArg {
		t.Errorf("P21.2: New(nil, 0, ..) = %v, %d", v, e)
	}
}

func TestThirdExample(t *testing.T) {
	p := voter(t, four(), 0, 1, z(1, 5))
	p.refuses(t, 1, x(1, 1, z(1, 5), 1), api.ErrServer)
	p.begins(t)
	p.votes(t, x(0, 1, z(1, 5), 1))
	p.answers(t, 1, x(1, 1, z(1, 5), 1), true)
	p.votes(t, x(1, 1, z(1, 5), 1))
	p.leads(t, 1)
	p.answers(t, 2, x(2, 0, z(0, 0), 1), false)
	p.answers(t, 2, x(1, 1, z(1, 5), 1), false)
	p.leads(t, 1)
	p.answers(t, 1, x(2, 9, z(1, 1), 3), true)
	p.votes(t, x(2, 9, z(1, 1), 3))
	p.leads(t, 2)
	p.answers(t, 2, x(2, 9, z(1, 1), 2), false)
}

func TestFourthExample(t *testing.T) {
	p := begun(t, four(), 0, 1, z(1, 5))
	p.answers(t, 1, x(1, 0, z(0, 0), 2), true)
	p.votes(t, x(0, 1, z(1, 5), 2))
	p.nobody(t)
}

func TestFifthExample(t *testing.T) {
	p := begun(t, four(), 0, 1, z(1, 5))
	p.refuses(t, 0, x(1, 1, z(1, 5), 1), api.ErrArg)
	p.refuses(t, 3, x(1, 1, z(1, 5), 1), api.ErrArg)
	p.refuses(t, 1, x(3, 1, z(1, 5), 1), api.ErrArg)
	p.refuses(t, 1, x(1, 1, z(1, 5), 0), api.ErrArg)
}

func TestSixthExample(t *testing.T) {
	s := made(t, four())
	current, last := []uint32{1, 2, 2, 9}, []api.Zxid{z(1, 9), z(2, 1), z(2, 2), z(9, 9)}
	for _, c := range []struct {
		voters uint8
		who    int8
		is     bool
	}{{7, 2, true}, {3, 1, true}, {1, 0, false}, {9, 0, false}} {
		if who, is := vote.Elect(s, c.voters, current, last); who != c.who || is != c.is {
			t.Errorf("P21.6: Elect(s, %d, ..) = %d, %v", c.voters, who, is)
		}
	}
	if who, is := vote.Elect(s, 7, current[:3], last[:3]); who != 0 || is {
		t.Errorf("P21.6: Elect(s, 7, of three, ..) = %d, %v", who, is)
	}
}
