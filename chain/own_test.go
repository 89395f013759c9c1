package chain_test

import (
	"reflect"
	"slices"
	"testing"

	"lagoon/chain"
)

// span is the memory of a list, its spare room too.
type span struct{ from, to uintptr }

func spanOf(l []int) span {
	at := reflect.ValueOf(l).Pointer()
	return span{at, at + uintptr(cap(l))*reflect.TypeFor[int]().Size()}
}

// apart tells whether no two of these lists have memory in common.
func apart(lists [][]int) bool {
	for i, a := range lists {
		for _, b := range lists[:i] {
			x, y := spanOf(a), spanOf(b)
			if max(x.from, y.from) < min(x.to, y.to) {
				return false
			}
		}
	}
	return true
}

// roomy is a list with spare room, which is full of other numbers.
func roomy(l []int) []int {
	out := slices.Concat(l, []int{101, 102, 103, 104, 105, 106, 107, 108})
	return out[:len(l)]
}

func isRoomy(t *testing.T, what string, got, l []int) {
	t.Helper()
	want := roomy(l)
	is(t, what, got[:len(l)+8], want[:len(l)+8]...)
}

// wipe writes a list over, its spare room too.
func wipe(l []int) {
	l = l[:cap(l)]
	for i := range l {
		l[i] = -99
	}
}

// TestRunLeavesWhatItWasHanded: the list and its spare room stay, and what is answered may be appended to and written over.
func TestRunLeavesWhatItWasHanded(t *testing.T) {
	for r := range rows(2) {
		for _, l := range inputs() {
			in := roomy(l)
			want := made(l, r.models())
			got := chain.Run(in, r.reals()...)
			isRoomy(t, "P23.5: what Run was handed", in, l)
			if !apart([][]int{in, got}) {
				t.Errorf("P23.5: Run(%v, %v) answers what it was handed", l, r)
			}
			wipe(append(got, 5, 6))
			wipe(got)
			isRoomy(t, "P23.5: what Run was handed", in, l)
			got = chain.Run(in, r.reals()...)
			wipe(in)
			is(t, "P23.5: what Run answered", got, want...)
		}
	}
}

// TestRunAnswersNewMemory: two answers have none in common, nor with the lists that a stage answers, those at the end among them.
func TestRunAnswersNewMemory(t *testing.T) {
	for _, many := range []int{0, 1, 3, 100} {
		in := make([]int, many)
		room := make([]int, 8)
		same := stage(own{func(int) []int { return room[:1] }, func() []int { return room[:3] }})
		l := [][]int{in, room, chain.Run(in), chain.Run(in), chain.Run(in, nil), chain.Run(in, same), chain.Run(in, same), chain.Run(in, same, chain.Batch[int](1<<40))}
		if !apart(l) {
			t.Errorf("P23.5: of %d things, answers of Run share memory", many)
		}
		is(t, "P23.5: a list that a stage answers", room, make([]int, 8)...)
	}
}

// TestStagesAreNotKept: the list of stages stays, with its spare room, and may be written over as soon as Pipe has answered.
func TestStagesAreNotKept(t *testing.T) {
	in := []int{1, 2, 3}
	bad := chain.Func(func(int) []int { return []int{-1} })
	for _, many := range []int{0, 1, 2, 5} {
		var room, bads []stage
		for range many {
			room, bads = append(room, chain.Batch[int](2)), append(bads, bad)
		}
		room = append(room, bad, nil, bad)
		was := slices.Clone(room)
		is(t, "P23.5: Run of a list with spare room", chain.Run(in, room[:many]...), in...)
		p := chain.Pipe(slices.Values(in), room[:many]...)
		if !slices.Equal(room, was) {
			t.Errorf("P23.5: of %d stages one is another one now", many)
		}
		copy(room, bads)
		is(t, "P23.5: Pipe of stages that were written over", list(p), in...)
		is(t, "P23.5: the same, gone over again", list(p), in...)
	}
}

// TestRunReadsStagesFirst: a stage that writes the list of stages over changes nothing of the call that is under way.
func TestRunReadsStagesFirst(t *testing.T) {
	for range 50 {
		var stages []stage
		bad := plain(none)
		stages = append(stages, plain(func(x int) []int {
			for i := range stages {
				stages[i] = bad
			}
			return []int{x}
		}))
		for range 20 {
			stages = append(stages, chain.Func[int](nil))
		}
		is(t, "P23.5: Run of stages that are written over", chain.Run([]int{1, 2}, stages...), 1, 2)
	}
}

// TestBatchAnswersNewMemory: what it answers may be appended to and written over, at once or later.
func TestBatchAnswersNewMemory(t *testing.T) {
	for _, n := range []int{0, 1, 2, 3, 5, 8, 9} {
		for many := range 30 {
			p := batchOf(n)
			var all, wants [][]int
			see := func(got, want []int) {
				is(t, p.name+"an answer", got, want...)
				wipe(append(got, 1, 2))
				wipe(got)
				if len(got) > 0 {
					all, wants = append(all, got), append(wants, slices.Repeat([]int{-99}, len(got)))
				}
			}
			for x := range many {
				see(p.b.Do(x), p.Do(x))
				if x%7 == 6 {
					see(p.b.End(), p.End())
					see(p.b.End(), p.End())
				}
			}
			see(p.b.End(), p.End())
			for i := range all {
				is(t, p.name+"an answer, later", all[i], wants[i]...)
			}
			if !apart(all) {
				t.Errorf("P23.5: answers of a Batch of %d share memory", n)
			}
		}
	}
}

// TestFuncOfNilAnswersNewMemory: also where the same thing comes again.
func TestFuncOfNilAnswersNewMemory(t *testing.T) {
	s := chain.Func[int](nil)
	a, b := s.Do(5), s.Do(5)
	if !apart([][]int{a, b}) {
		t.Errorf("R5: two answers share memory")
	}
	wipe(a)
	is(t, "R5: the other answer", b, 5)
	is(t, "R5: a further answer", s.Do(5), 5)
}

// TestListsAreReadAheadOfTheNextCall: stages with one list for all their answers, in rows; behind each call it is other numbers, as soon as the next one begins.
func TestListsAreReadAheadOfTheNextCall(t *testing.T) {
	in := make([]int, 500)
	for i := range in {
		in[i] = i*7%23 - 5
	}
	one := strange("reuser", reuser)
	for _, r := range []row{{one}, {one, one}, {one, one, one}, {one, batch(4), one}, {batch(3), one, noStage, of("double", double, double), one}, {one, strange("teller", teller), one}} {
		for range 20 {
			makes(t, in, r)
		}
		goes(t, in, r, never, 17, never)
	}
}

// TestListsStay: neither Run nor Pipe changes what a stage answers, its spare room neither.
func TestListsStay(t *testing.T) {
	var lists, wants [][]int
	see := func(l []int) []int {
		lists, wants = append(lists, roomy(l)), append(wants, l)
		return lists[len(lists)-1]
	}
	first := own{func(x int) []int { return see([]int{x, x + 1, x + 2}) }, func() []int { return see([]int{9}) }}
	in := []int{1, 2, 3}
	chain.Run(in, stage(first), chain.Func(odd), chain.Batch[int](2))
	list(chain.Pipe(slices.Values(in), stage(first), chain.Func(odd), chain.Batch[int](2)))
	chain.Run(in, chain.Func(odd), stage(first))
	list(chain.Pipe(slices.Values(in), chain.Func(odd), stage(first)))
	for i := range lists {
		isRoomy(t, "P23.5: what a stage answered", lists[i], wants[i])
	}
}

// TestPipeWithinItself: it is gone over again within its own loop; the stages answer in lists of their own that they use again.
func TestPipeWithinItself(t *testing.T) {
	room := make([]int, 2)
	pairs := chain.Func(func(x int) []int {
		room[0], room[1] = x, 10*x
		return room
	})
	p := chain.Pipe(slices.Values([]int{1, 2}), pairs)
	var got []int
	for x := range p {
		got = append(got, x)
		for y := range p {
			got = append(got, y)
		}
	}
	is(t, "P23.5: a Pipe within itself", got, 1, 1, 10, 2, 20, 10, 1, 10, 2, 20, 2, 1, 10, 2, 20, 20, 1, 10, 2, 20)
}

// TestWritesBehindRun: who called may do with the list what he likes at once; the race detector would tell of a stage that still reads it.
func TestWritesBehindRun(t *testing.T) {
	for range 200 {
		in := []int{1, 2, 3, 4, 5}
		got := chain.Run(in, nil, chain.Func(double), chain.Batch[int](2), chain.Func(odd))
		wipe(in)
		is(t, "P23.5: what Run answered", got, 1, 3, 3, 5, 5)
	}
}
