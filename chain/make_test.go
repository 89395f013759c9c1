package chain_test

import (
	"fmt"
	"iter"
	"runtime"
	"slices"
	"sync"
	"testing"

	"lagoon/chain"
)

// stage is one of the tests' own making, or of the package's.
type stage = chain.Stage[int]

func double(x int) []int { return []int{x, x + 1} }

func odd(x int) []int {
	if x%2 == 0 {
		return nil
	}
	return []int{x}
}

func none(int) []int { return []int{} }

func lots(x int) []int { return []int{x, 10 * x, -x, x, x} }

// own is a stage as the chapter says it, without anything of the package.
type own struct {
	do  func(x int) []int
	end func() []int
}

func (s own) Do(x int) []int { return s.do(x) }

func (s own) End() []int { return s.end() }

func nothing() []int { return nil }

func plain(do func(x int) []int) stage { return own{do, nothing} }

// keeper is what Batch(n) is to be: everything that came, and how much of it was answered.
type keeper struct {
	n    int
	came []int
	gone int
}

func (k *keeper) Do(x int) []int {
	k.came = append(k.came, x)
	if len(k.came)-k.gone >= k.n {
		return k.End()
	}
	return nil
}

func (k *keeper) End() []int {
	from := k.gone
	k.gone = len(k.came)
	return slices.Clone(k.came[from:])
}

// ender hands things on, and tells two at the end.
func ender() stage {
	return own{func(x int) []int { return []int{x} }, func() []int { return []int{7, 8} }}
}

// teller tells at the end how many came since it was made, and the sum of them all; it goes on behind it.
func teller() stage {
	many, sum := 0, 0
	return own{func(x int) []int {
		many++
		sum += x
		return []int{sum}
	}, func() []int { return []int{many, sum} }}
}

// reuser has one list for all its answers, which it writes over at each call.
func reuser() stage {
	room := make([]int, 4)
	return own{func(x int) []int {
		for i := range room {
			room[i] = x + 100*i
		}
		return room[:(x%5+5)%5]
	}, func() []int {
		for i := range room {
			room[i] = -1 - i
		}
		return room[:3]
	}}
}

// part is a stage, and what it is to be; each is made anew by each call.
type part struct {
	name  string
	real  func() stage
	model func() stage
}

func of(name string, do, same func(x int) []int) part {
	return part{name, func() stage { return chain.Func(do) }, func() stage { return plain(same) }}
}

func batch(n int) part {
	return part{fmt.Sprintf("Batch(%d)", n), func() stage { return chain.Batch[int](n) }, func() stage { return &keeper{n: n} }}
}

func strange(name string, f func() stage) part { return part{name, f, f} }

// noStage is a stage that is nil.
var noStage = part{"nil", func() stage { return nil }, func() stage { return nil }}

// parts are all kinds of stages.
func parts() []part {
	return []part{
		noStage,
		of("double", double, double), of("odd", odd, odd), of("none", none, none), of("lots", lots, lots),
		of("Func(nil)", nil, func(x int) []int { return []int{x} }),
		batch(-1), batch(0), batch(1), batch(2), batch(3), batch(1 << 40),
		strange("ender", ender), strange("teller", teller), strange("reuser", reuser),
	}
}

// row is parts in a row.
type row []part

func (r row) String() string {
	var names []string
	for _, p := range r {
		names = append(names, p.name)
	}
	return fmt.Sprint(names)
}

func (r row) reals() []stage {
	var l []stage
	for _, p := range r {
		l = append(l, p.real())
	}
	return l
}

func (r row) models() []stage {
	var l []stage
	for _, p := range r {
		l = append(l, p.model())
	}
	return l
}

// rows are all rows of up to so many parts.
func rows(most int) iter.Seq[row] {
	return func(yield func(row) bool) {
		var add func(r row) bool
		add = func(r row) bool {
			if !yield(r) {
				return false
			}
			if len(r) == most {
				return true
			}
			for _, p := range parts() {
				if !add(append(slices.Clone(r), p)) {
					return false
				}
			}
			return true
		}
		add(nil)
	}
}

// made is what stages make of a list, one of them doing all of its work ahead of the next.
func made(in []int, stages []stage) []int {
	out := slices.Clone(in)
	for _, s := range stages {
		if s == nil {
			continue
		}
		var next []int
		for _, x := range out {
			next = append(next, slices.Clone(s.Do(x))...)
		}
		out = append(next, s.End()...)
	}
	return out
}

// makes holds what Run answers against it.
func makes(t *testing.T, in []int, r row) {
	t.Helper()
	want := made(in, r.models())
	if got := chain.Run(in, r.reals()...); !slices.Equal(got, want) {
		t.Errorf("P23.3: Run(%v, %v) = %v, not %v", in, r, got, want)
	}
}

// inputs are lists of several lengths, among them none.
func inputs() [][]int {
	return [][]int{nil, {}, {1}, {2, 2}, {1, 2, 3}, {5, -4, 0, 3, 3, 9, 8}}
}

// event is one thing that happened: in was asked, a stage was called, a thing was given.
type event struct {
	what     string
	stage, x int
}

// tape is what happened, in order.
type tape struct {
	lock sync.Mutex
	all  []event
}

func (l *tape) note(what string, stage, x int) {
	l.lock.Lock()
	defer l.lock.Unlock()
	l.all = append(l.all, event{what, stage, x})
}

func (l *tape) len() int {
	l.lock.Lock()
	defer l.lock.Unlock()
	return len(l.all)
}

// take tells what happened since the last time.
func (l *tape) take() []event {
	l.lock.Lock()
	defer l.lock.Unlock()
	out := l.all
	l.all = nil
	return out
}

// noted is a stage whose calls go onto a tape: when each of them begins, and when it ends.
type noted struct {
	stage
	at   int
	tape *tape
}

func (n noted) Do(x int) []int {
	n.tape.note("do", n.at, x)
	runtime.Gosched() // others have their chance to be wrong
	out := n.stage.Do(x)
	n.tape.note("done", n.at, x)
	return out
}

func (n noted) End() []int {
	n.tape.note("end", n.at, 0)
	runtime.Gosched()
	out := n.stage.End()
	n.tape.note("done", n.at, 0)
	return out
}

// note puts a row's stages onto a tape; one that is nil stays so.
func (l *tape) noteAll(stages []stage) []stage {
	var out []stage
	for i, s := range stages {
		if s != nil {
			s = noted{s, i, l}
		}
		out = append(out, s)
	}
	return out
}

// seq gives a list's things, and notes when one is asked for, and when it ends, for lack of more or because it was left.
func (l *tape) seq(in []int) iter.Seq[int] {
	return func(yield func(int) bool) {
		for _, x := range in {
			l.note("ask", 0, x)
			if !yield(x) {
				l.note("left", 0, 0)
				return
			}
		}
		l.note("no more", 0, 0)
	}
}

// walker goes the way that the chapter says of Pipe, and notes it.
type walker struct {
	tape
	stages []stage
	most   int // the loop is left behind so many things
	given  int
}

func (w *walker) isLeft() bool { return w.given == w.most }

// hand lets a thing go through the stages from one on.
func (w *walker) hand(from, x int) {
	for from < len(w.stages) && w.stages[from] == nil {
		from++
	}
	if from == len(w.stages) {
		w.note("give", 0, x)
		w.given++
		return
	}
	w.note("do", from, x)
	l := slices.Clone(w.stages[from].Do(x))
	w.note("done", from, x)
	w.handAll(from+1, l)
}

func (w *walker) handAll(from int, l []int) {
	for _, x := range l {
		if w.isLeft() {
			return
		}
		w.hand(from, x)
	}
}

// walk tells what is to happen.
func (w *walker) walk(in []int) []event {
	w.given = 0
	for _, x := range in {
		w.note("ask", 0, x)
		w.hand(0, x)
		if w.isLeft() {
			w.note("left", 0, 0)
			return w.take()
		}
	}
	w.note("no more", 0, 0)
	for i, s := range w.stages {
		if s == nil || w.isLeft() {
			continue
		}
		w.note("end", i, 0)
		l := slices.Clone(s.End())
		w.note("done", i, 0)
		w.handAll(i+1, l)
	}
	return w.take()
}

// gone is what happens where a Pipe is gone over, and left behind so many things.
func (l *tape) gone(p iter.Seq[int], most int) []event {
	many := 0
	for x := range p {
		l.note("give", 0, x)
		many++
		if many == most {
			break
		}
	}
	return l.take()
}

// list is what a Pipe gives, gone over to its end.
func list[T any](p iter.Seq[T]) []T {
	var out []T
	for x := range p {
		out = append(out, x)
	}
	return out
}

// is holds a list against what it is to be.
func is(t *testing.T, what string, got []int, want ...int) {
	t.Helper()
	if !slices.Equal(got, want) {
		t.Errorf("%s = %v, not %v", what, got, want)
	}
}
