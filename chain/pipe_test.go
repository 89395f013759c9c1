package chain_test

import (
	"iter"
	"slices"
	"testing"

	"lagoon/chain"
)

// goes holds what happens where a Pipe is gone over, several times, against the chapter's words; it is left behind so many things each time.
func goes(t *testing.T, in []int, r row, leave ...int) {
	t.Helper()
	var l tape
	w := &walker{stages: r.models()}
	p := chain.Pipe(l.seq(in), l.noteAll(r.reals())...)
	if all := l.take(); p == nil || len(all) > 0 {
		t.Fatalf("P23.4: Pipe(%v, %v), before it is gone over: %v", in, r, all)
	}
	for i, most := range leave {
		w.most = most
		want := w.walk(in)
		if got := l.gone(p, most); !slices.Equal(got, want) {
			t.Fatalf("P23.4: Pipe(%v, %v), going %d, left behind %d:\n%v, not\n%v", in, r, i, most, got, want)
		}
	}
}

// never is a number of things behind which no loop is left.
const never = -1

// TestPipe: all rows of up to three stages, over each list: everything asked, called and given, in order; and once more.
func TestPipe(t *testing.T) {
	for r := range rows(3) {
		for _, in := range inputs() {
			goes(t, in, r, never, never)
		}
	}
}

// TestPipeLeft: behind each thing that it gives, also those that an End answers; gone over again behind that.
func TestPipeLeft(t *testing.T) {
	for r := range rows(2) {
		for _, in := range inputs() {
			many := len(made(in, r.models()))
			for most := 1; most <= many; most++ {
				goes(t, in, r, most, never)
				goes(t, in, r, most, most, 1, never, most, never)
			}
		}
	}
}

// TestPipeOfThreeLeft: the same of three stages, over one list.
func TestPipeOfThreeLeft(t *testing.T) {
	in := []int{3, 4, 5}
	for r := range rows(3) {
		many := len(made(in, r.models()))
		for most := 1; most <= many; most++ {
			goes(t, in, r, most, most, never)
		}
	}
}

// TestPipeByHand: what happens, without the tests' model of it.
func TestPipeByHand(t *testing.T) {
	var l tape
	stages := l.noteAll([]stage{chain.Batch[int](2), nil, own{double, func() []int { return []int{7, 8} }}})
	p := chain.Pipe(l.seq([]int{1, 2, 3}), stages...)
	first := []event{
		{"ask", 0, 1}, {"do", 0, 1}, {"done", 0, 1},
		{"ask", 0, 2}, {"do", 0, 2}, {"done", 0, 2},
		{"do", 2, 1}, {"done", 2, 1}, {"give", 0, 1}, {"give", 0, 2},
		{"do", 2, 2}, {"done", 2, 2}, {"give", 0, 2}, {"give", 0, 3},
		{"ask", 0, 3}, {"do", 0, 3}, {"done", 0, 3}, {"no more", 0, 0},
		{"end", 0, 0}, {"done", 0, 0}, {"do", 2, 3}, {"done", 2, 3}, {"give", 0, 3}, {"give", 0, 4},
		{"end", 2, 0}, {"done", 2, 0}, {"give", 0, 7}, {"give", 0, 8},
	}
	for range 2 {
		if got := l.gone(p, never); !slices.Equal(got, first) {
			t.Errorf("P23.4: gone over: %v", got)
		}
	}
	if got := l.gone(p, 2); !slices.Equal(got, append(slices.Clone(first[:10]), event{"left", 0, 0})) {
		t.Errorf("P23.4: left behind two: %v", got)
	}
	if got := l.gone(p, 6); !slices.Equal(got, first[:24]) {
		t.Errorf("P23.4: left behind what the first End answered: %v", got)
	}
	if got := l.gone(p, 7); !slices.Equal(got, first[:27]) {
		t.Errorf("P23.4: left within what the last End answered: %v", got)
	}
}

func TestPipeOfNil(t *testing.T) {
	var in iter.Seq[int]
	is(t, "P23.4: Pipe(nil)", list(chain.Pipe(in)))
	is(t, "P23.4: Pipe(nil, nil)", list(chain.Pipe(in, nil)))
	for r := range rows(2) {
		var l tape
		w := &walker{stages: r.models(), most: never}
		p := chain.Pipe(in, l.noteAll(r.reals())...)
		for range 2 {
			want := slices.DeleteFunc(w.walk(nil), func(e event) bool { return e.what == "no more" })
			if got := l.gone(p, never); !slices.Equal(got, want) {
				t.Errorf("P23.4: Pipe(nil, %v): %v, not %v", r, got, want)
			}
		}
	}
}

// TestPipeTakesNoYield: it gives nothing, asks nothing, calls nothing, and does not panic (R1).
func TestPipeTakesNoYield(t *testing.T) {
	for r := range rows(2) {
		var l tape
		chain.Pipe(l.seq([]int{1, 2}), l.noteAll(r.reals())...)(nil)
		chain.Pipe(nil, l.noteAll(r.reals())...)(nil)
		if all := l.take(); len(all) > 0 {
			t.Errorf("R1: Pipe(%v), gone over by nil: %v", r, all)
		}
	}
}

// TestPipePulled: things that are asked for from outside, one by one.
func TestPipePulled(t *testing.T) {
	for r := range rows(2) {
		in := []int{1, 2, 3}
		want := made(in, r.models())
		for most := range len(want) + 1 {
			var l tape
			next, stop := iter.Pull(chain.Pipe(l.seq(in), l.noteAll(r.reals())...))
			if l.len() > 0 {
				t.Errorf("P23.4: Pipe(%v), pulled: asked ahead of the first thing", r)
			}
			for i := range most {
				if x, ok := next(); !ok || x != want[i] {
					t.Errorf("P23.4: Pipe(%v), pulled: %d, %v, not %d", r, x, ok, want[i])
				}
			}
			w := &walker{stages: r.models(), most: most}
			if most > 0 {
				stop()
				happens := slices.DeleteFunc(w.walk(in), func(e event) bool { return e.what == "give" })
				if got := l.take(); !slices.Equal(got, happens) {
					t.Errorf("P23.4: Pipe(%v), pulled %d times: %v, not %v", r, most, got, happens)
				}
			}
			stop()
			if x, ok := next(); ok {
				t.Errorf("P23.4: Pipe(%v), behind its end: %d", r, x)
			}
		}
	}
}

// TestPipeWithoutEnd: what is ranged over may go on for ever.
func TestPipeWithoutEnd(t *testing.T) {
	asked := 0
	forever := func(yield func(int) bool) {
		for yield(asked) {
			asked++
		}
	}
	var got []int
	for x := range chain.Pipe(forever, chain.Func(odd), chain.Batch[int](3), chain.Func(double)) {
		got = append(got, x)
		if len(got) == 7 {
			break
		}
	}
	is(t, "P23.4: the first things", got, 1, 2, 3, 4, 5, 6, 7)
	if asked != 11 {
		t.Errorf("P23.4: it is left at %d", asked)
	}
}

// stubborn goes on when it was left, and keeps what it was handed.
type stubborn struct {
	in   []int
	kept func(x int) bool
	told []bool
}

func (s *stubborn) seq(yield func(x int) bool) {
	s.kept, s.told = yield, nil
	for _, x := range s.in {
		s.told = append(s.told, yield(x))
	}
}

// TestPipeOverWhatGoesOn: what is ranged over does not stop where it is left; nothing more is called or given, and nothing panics (R1).
func TestPipeOverWhatGoesOn(t *testing.T) {
	in := []int{1, 2, 3, 4}
	asks := func(e event) bool { return e.what == "ask" || e.what == "left" || e.what == "no more" }
	for r := range rows(2) {
		many := len(made(in, r.models()))
		for most := 1; most <= many; most++ {
			var l tape
			s := &stubborn{in: in}
			w := &walker{stages: r.models(), most: most}
			p := chain.Pipe(s.seq, l.noteAll(r.reals())...)
			for range 2 {
				want := slices.DeleteFunc(w.walk(in), asks)
				if got := l.gone(p, most); !slices.Equal(got, want) {
					t.Errorf("R1: Pipe(%v) over what goes on, left behind %d: %v, not %v", r, most, got, want)
				}
				if left := slices.Index(s.told, false); left >= 0 && slices.Contains(s.told[left:], true) {
					t.Errorf("R1: Pipe(%v): it is told to go on: %v", r, s.told)
				}
			}
			if s.kept(9) || l.len() > 0 {
				t.Errorf("R1: Pipe(%v), left behind %d: it takes more behind its end: %v", r, most, l.take())
			}
		}
	}
}

// TestPipeTakesNothingBehindItsEnd: gone over to its end, it takes nothing more from who kept what he was handed.
func TestPipeTakesNothingBehindItsEnd(t *testing.T) {
	for r := range rows(2) {
		var l tape
		s := &stubborn{in: []int{1, 2, 3}}
		p := chain.Pipe(s.seq, l.noteAll(r.reals())...)
		for range 2 {
			given := 0
			p(func(int) bool {
				given++
				return true
			})
			l.take()
			all := given
			if s.kept(9) || given != all || l.len() > 0 {
				t.Errorf("R1: Pipe(%v) takes more behind its end: %v", r, l.take())
			}
		}
	}
}

// TestPipeTakesNothingInBetween: while a thing is under way, no other one goes ahead of it.
func TestPipeTakesNothingInBetween(t *testing.T) {
	for r := range rows(2) {
		in := []int{1, 2, 3}
		var l tape
		s := &stubborn{in: in}
		for x := range chain.Pipe(s.seq, r.reals()...) {
			l.note("give", 0, x)
			if s.kept(9) {
				t.Errorf("R1: Pipe(%v) takes another one within one", r)
			}
		}
		var got []int
		for _, e := range l.take() {
			got = append(got, e.x)
		}
		is(t, "R1: what is given to who asks in between", got, made(in, r.models())...)
	}
}
