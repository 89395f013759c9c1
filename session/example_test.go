package session_test

import (
	"slices"
	"testing"

	"lagoon/api"
	"lagoon/session"
)

func clock(t *testing.T, span int) *session.Clock {
	t.Helper()
	c, e := session.New(span)
	if c == nil || e != api.OK {
		t.Fatalf("P19.1: New(%d) = %v, %d", span, c, e)
	}
	return c
}

func answers(t *testing.T, call string, got, want api.Errno) {
	t.Helper()
	if got != want {
		t.Errorf("P19.2: %s = %d, not %d", call, got, want)
	}
}

func due(t *testing.T, c *session.Clock, id int64, want int) {
	t.Helper()
	if n, is := c.Due(id); n != want || is != (want != 0) {
		t.Errorf("P19.4: Due(%d) = %d, %v, not %d", id, n, is, want)
	}
}

func TestFirstExample(t *testing.T) {
	c := clock(t, 5)
	answers(t, "Add(7, 3)", c.Add(7, 3), api.OK)
	answers(t, "Add(4, 5)", c.Add(4, 5), api.OK)
	answers(t, "Add(9, 6)", c.Add(9, 6), api.OK)
	due(t, c, 7, 5)
	due(t, c, 4, 5)
	due(t, c, 9, 10)
	for n := range 4 {
		if l := c.Tick(); len(l) != 0 {
			t.Errorf("P19.3: the Tick to %d tells %v", n+1, l)
		}
	}
	if l := c.Tick(); !slices.Equal(l, []int64{4, 7}) {
		t.Errorf("P19.3: the fifth Tick tells %v", l)
	}
	if l := c.All(); !slices.Equal(l, []api.Session{{Id: 9, Timeout: 6}}) {
		t.Errorf("P19.4: All tells %v", l)
	}
	if l := c.Tick(); len(l) != 0 || c.Now() != 6 {
		t.Errorf("P19.3: the sixth Tick tells %v, at %d", l, c.Now())
	}
	answers(t, "Touch(9)", c.Touch(9), api.OK)
	due(t, c, 9, 15)
	answers(t, "Touch(7)", c.Touch(7), api.ErrSession)
}

func TestSecondExample(t *testing.T) {
	c := clock(t, 1)
	answers(t, "Add(1, 1)", c.Add(1, 1), api.OK)
	due(t, c, 1, 1)
	for _, span := range []int{0, 1001} {
		if c, e := session.New(span); c != nil || e != api.ErrArg {
			t.Errorf("P19.1: New(%d) = %v, %d", span, c, e)
		}
	}
	answers(t, "Add(0, 1)", c.Add(0, 1), api.ErrArg)
	answers(t, "Add(1, 0)", c.Add(1, 0), api.ErrArg)
	answers(t, "Add(1, 1001)", c.Add(1, 1001), api.ErrArg)
}

func TestThirdExample(t *testing.T) {
	for span, want := range []int{1: 2, 2: 2, 3: 3, 5: 5, 1000: 1000} {
		if want == 0 {
			continue
		}
		c := clock(t, span)
		answers(t, "Add(1, 1000)", c.Add(1, 1000), api.OK)
		answers(t, "Add(1, 2)", c.Add(1, 2), api.OK)
		due(t, c, 1, want)
		if l := c.All(); !slices.Equal(l, []api.Session{{Id: 1, Timeout: 2}}) {
			t.Errorf("P19.4: All tells %v", l)
		}
		if first, second := c.Remove(1), c.Remove(1); !first || second {
			t.Errorf("P19.2: Remove(1) = %v, then %v", first, second)
		}
		due(t, c, 1, 0)
	}
}
