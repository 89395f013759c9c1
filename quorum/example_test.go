package quorum_test

import (
	"testing"

	"lagoon/api"
	"lagoon/quorum"
)

// has holds which of these sets are quorums.
func has(t *testing.T, s *quorum.System, want bool, sets ...uint8) {
	t.Helper()
	for _, set := range sets {
		if got := s.Has(set); got != want {
			t.Errorf("P20.2: Has(%d) = %v", set, got)
		}
	}
}

func least(t *testing.T, s *quorum.System, want bool, sets ...uint8) {
	t.Helper()
	for _, set := range sets {
		if got := s.Least(set); got != want {
			t.Errorf("P20.2: Least(%d) = %v", set, got)
		}
	}
}

func TestFirstExample(t *testing.T) {
	s := made(t, words{[]int{1, 1, 1}, []int{0, 0, 0}})
	has(t, s, true, 3, 5, 6, 7)
	has(t, s, false, 0, 1, 2, 4)
	least(t, s, true, 3, 5, 6)
	least(t, s, false, 7, 0, 1, 2, 4)
	has(t, s, true, 128+3)
	least(t, s, true, 128+3)
}

func TestSecondExample(t *testing.T) {
	s := made(t, words{[]int{1, 1, 0}, []int{0, 0, 0}})
	has(t, s, false, 5, 0, 1, 2, 4, 6)
	has(t, s, true, 3, 7)
	least(t, s, true, 3)
	least(t, s, false, 7)
	for _, server := range []int8{2, 3, -1} {
		if s.Counts(server) {
			t.Errorf("P20.2: Counts(%d)", server)
		}
	}
	if !s.Counts(0) || !s.Counts(1) || s.Size() != 3 {
		t.Errorf("P20.2: 0 and 1 of the three count: %v, %v, of %d", s.Counts(0), s.Counts(1), s.Size())
	}
}

func TestThirdExample(t *testing.T) {
	s := made(t, words{[]int{3, 1, 1}, []int{0, 0, 0}})
	has(t, s, true, 1, 3, 5, 7)
	has(t, s, false, 6, 2, 4, 0)
	least(t, s, true, 1)
	least(t, s, false, 3, 5, 7)
}

func TestFourthExample(t *testing.T) {
	s := made(t, words{[]int{1, 1, 1, 1, 1, 1}, []int{0, 0, 2, 2, 5, 5}})
	has(t, s, true, 15, 3+48, 12+48, 63)
	has(t, s, false, 21, 3, 12, 48, 3+4+16)
	s = made(t, words{[]int{1, 1, 1, 1, 0, 0}, []int{0, 0, 2, 2, 5, 5}})
	has(t, s, true, 15, 63)
	has(t, s, false, 3, 3+48, 12+48)
}

func TestFifthExample(t *testing.T) {
	refuses(t, []int{}, []int{})
	refuses(t, []int{1}, []int{7})
	refuses(t, []int{1}, []int{0, 0})
	refuses(t, []int{0, 0}, []int{0, 1})
	refuses(t, []int{101}, []int{0})
	refuses(t, likes(8, 1), likes(8, 0))
}

func TestSixthExample(t *testing.T) {
	a, e := quorum.NewAcks(made(t, words{[]int{1, 1, 1}, []int{0, 0, 0}}))
	if a == nil || e != api.OK {
		t.Fatalf("P20.3: NewAcks = %v, %d", a, e)
	}
	for i, x := range []struct {
		server int8
		z      api.Zxid
		want   api.Zxid
		some   bool
	}{
		{0, z(1, 5), z(0, 0), false},
		{1, z(1, 3), z(1, 3), true},
		{2, z(1, 9), z(1, 5), true},
		{2, z(1, 1), z(1, 5), true},
	} {
		if e := a.Put(x.server, x.z); e != api.OK {
			t.Errorf("P20.3: row %d: Put = %d", i, e)
		}
		if got, some := a.Committed(); got != x.want || some != x.some {
			t.Errorf("P20.4: row %d: Committed = %v, %v", i, got, some)
		}
	}
	if e := a.Put(3, z(1, 10)); e != api.ErrArg {
		t.Errorf("P20.3: Put(3, ..) = %d", e)
	}
	if got, some := a.Of(1); got != z(1, 3) || !some {
		t.Errorf("P20.3: Of(1) = %v, %v", got, some)
	}
	if got, some := a.Of(2); got != z(1, 9) || !some {
		t.Errorf("P20.3: Of(2) = %v, %v", got, some)
	}
}
