package chain_test

import (
	"fmt"
	"math/rand/v2"
	"slices"
	"strings"
	"testing"

	"lagoon/chain"
)

// someRow is parts by chance.
func someRow(r *rand.Rand, many int) row {
	all := parts()
	var out row
	for range r.IntN(many + 1) {
		out = append(out, all[r.IntN(len(all))])
	}
	return out
}

func someList(r *rand.Rand) []int {
	l := make([]int, r.IntN(1+r.IntN(40)))
	for i := range l {
		l[i] = r.IntN(20) - 5
	}
	return l
}

// TestRunIsPipe: gone over to its end, with stages alike; again with the same ones, too.
func TestRunIsPipe(t *testing.T) {
	r := rand.New(rand.NewPCG(23, 2))
	for range 2000 {
		row, in := someRow(r, 7), someList(r)
		a, b := row.reals(), row.reals()
		p := chain.Pipe(slices.Values(in), b...)
		for range 2 {
			is(t, fmt.Sprintf("P23.4: Pipe(%v, %v) against Run", in, row), list(p), chain.Run(in, a...)...)
		}
		makes(t, in, row)
		if t.Failed() {
			return
		}
	}
}

// TestLongRowsByChance: everything asked, called and given, left anywhere, and gone over again.
func TestLongRowsByChance(t *testing.T) {
	r := rand.New(rand.NewPCG(23, 3))
	for range 2000 {
		row, in := someRow(r, 6), someList(r)
		if len(made(in, row.models())) > 3000 {
			continue
		}
		goes(t, in, row, 1+r.IntN(9), 1+r.IntN(60), never, 1+r.IntN(9), never)
	}
}

// TestBatchesChangeNothing: put in anywhere among Funcs, one or several.
func TestBatchesChangeNothing(t *testing.T) {
	r := rand.New(rand.NewPCG(23, 4))
	functions := []part{of("double", double, double), of("odd", odd, odd), of("none", none, none), of("lots", lots, lots), of("Func(nil)", nil, nil), noStage}
	for range 1000 {
		var funcs row
		for range r.IntN(5) {
			funcs = append(funcs, functions[r.IntN(len(functions))])
		}
		in := someList(r)
		want := chain.Run(in, funcs.reals()...)
		with := funcs
		for range 3 {
			with = slices.Insert(slices.Clone(with), r.IntN(len(with)+1), batch(r.IntN(12)-1))
			is(t, fmt.Sprintf("P23.2: Run(%v, %v)", in, with), chain.Run(in, with.reals()...), want...)
			is(t, fmt.Sprintf("P23.2: Pipe(%v, %v)", in, with), list(chain.Pipe(slices.Values(in), with.reals()...)), want...)
		}
	}
}

// TestRunOfRun: a row cut anywhere, its first part gone through ahead of the rest.
func TestRunOfRun(t *testing.T) {
	r := rand.New(rand.NewPCG(23, 5))
	for range 1000 {
		row, in := someRow(r, 6), someList(r)
		whole := chain.Run(in, row.reals()...)
		at := r.IntN(len(row) + 1)
		a, b := row[:at], row[at:]
		is(t, fmt.Sprintf("P23.3: Run(Run(%v, %v), %v)", in, a, b), chain.Run(chain.Run(in, a.reals()...), b.reals()...), whole...)
		p := chain.Pipe(chain.Pipe(slices.Values(in), a.reals()...), b.reals()...)
		is(t, fmt.Sprintf("P23.4: Pipe(Pipe(%v, %v), %v)", in, a, b), list(p), whole...)
	}
}

// big is a thing that has more bytes than a channel's elements may.
type big [1 << 17]byte

// each holds Run and Pipe of things of any type against what goes through by itself.
func each[T comparable](t *testing.T, in ...T) {
	t.Helper()
	twice := func(x T) []T { return []T{x, x} }
	var want []T
	for _, x := range in {
		want = append(want, x, x, x, x)
	}
	stages := func() []chain.Stage[T] {
		return []chain.Stage[T]{chain.Func(twice), nil, chain.Batch[T](3), chain.Func[T](nil), chain.Func(twice)}
	}
	if got := chain.Run(in, stages()...); !slices.Equal(got, want) {
		t.Errorf("P23.3: Run of %T", in)
	}
	if got := list(chain.Pipe(slices.Values(in), stages()...)); !slices.Equal(got, want) {
		t.Errorf("P23.4: Pipe of %T", in)
	}
}

// TestThingsOfAnyType: also such as have no bytes, or very many, or are nil.
func TestThingsOfAnyType(t *testing.T) {
	each[int](t)
	each(t, "", "a", strings.Repeat("b", 1000))
	each(t, struct{}{}, struct{}{}, struct{}{})
	each[error](t, nil, nil)
	each[any](t, nil, 1, "a", 2.5, nil)
	each(t, new(int), nil, new(int))
	each(t, make(chan int), nil)
	each(t, [2]string{"a", "b"}, [2]string{})
	each(t, event{"do", 1, 2}, event{})
	each(t, big{1}, big{1 << 16: 3}, big{})
}

// TestThingsThatAreLists: they go through as they are.
func TestThingsThatAreLists(t *testing.T) {
	in := [][]int{{1, 2, 3}, nil, {}, {4}}
	cut := func(l []int) [][]int {
		var out [][]int
		for i := range l {
			out = append(out, l[i:i+1])
		}
		return out
	}
	for _, got := range [][][]int{
		chain.Run(in, chain.Func(cut), chain.Batch[[]int](2)),
		list(chain.Pipe(slices.Values(in), chain.Func(cut), chain.Batch[[]int](2))),
	} {
		if !slices.EqualFunc(got, [][]int{{1}, {2}, {3}, {4}}, slices.Equal) {
			t.Errorf("P23.3: of lists: %v", got)
		}
	}
	if got := chain.Run(in); len(got) != 4 || got[1] != nil || got[2] == nil {
		t.Errorf("P23.3: of lists, without a stage: %#v", got)
	}
}

// TestThingsThatAreFunctions: what may not be compared goes through, too.
func TestThingsThatAreFunctions(t *testing.T) {
	n := 0
	add := func() { n++ }
	for _, f := range chain.Run([]func(){add, add}, chain.Batch[func()](3), nil) {
		f()
	}
	for f := range chain.Pipe(slices.Values([]func(){add}), chain.Func(func(f func()) []func() { return []func(){f, f, f} })) {
		f()
	}
	if n != 5 {
		t.Errorf("P23.3: %d functions came", n)
	}
}
