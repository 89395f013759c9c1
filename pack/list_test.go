package pack_test

import (
	"bytes"
	"math"
	"slices"
	"testing"

	"lagoon/api"
	"lagoon/pack"
)

func TestPutList(t *testing.T) {
	for _, c := range []struct {
		l    []int8
		want []byte
	}{
		{nil, []byte{0, 0, 0, 0}},
		{[]int8{}, []byte{0, 0, 0, 0}},
		{[]int8{-1}, []byte{0, 0, 0, 1, 0xFF}},
		{[]int8{5, 6}, []byte{0, 0, 0, 2, 5, 6}},
	} {
		b := written(func(w *pack.Writer) { pack.PutList(w, c.l, (*pack.Writer).Int8) })
		if !bytes.Equal(b, c.want) {
			t.Errorf("P1.5: PutList(%v): % x, not % x", c.l, b, c.want)
		}
	}
}

func TestPutListBehindOthers(t *testing.T) {
	b := written(func(w *pack.Writer) {
		w.Int8(9)
		pack.PutList(w, []string{"a", "", "bc"}, (*pack.Writer).Text)
		w.Int8(8)
	})
	want := []byte{9, 0, 0, 0, 3, 0, 0, 0, 1, 'a', 0, 0, 0, 0, 0, 0, 0, 2, 'b', 'c', 8}
	if !bytes.Equal(b, want) {
		t.Errorf("P1.5: % x, not % x", b, want)
	}
}

func TestPutListCountOfSeveralBytes(t *testing.T) {
	b := written(func(w *pack.Writer) { pack.PutList(w, make([]bool, 70000), (*pack.Writer).Bool) })
	if len(b) != 70004 || !bytes.Equal(b[:5], []byte{0, 1, 0x11, 0x70, 0}) {
		t.Errorf("P1.5: %d bytes, that begin % x", len(b), b[:5])
	}
}

// TestPutListCalls: put is handed the Writer itself and each element, once and in order, behind the count.
func TestPutListCalls(t *testing.T) {
	var w pack.Writer
	var got []int
	pack.PutList(&w, []int{4, 7, 4}, func(to *pack.Writer, x int) {
		if to != &w || w.Len() != 4 {
			t.Errorf("P1.5: put is called with another Writer, or ahead of the count: %d", w.Len())
		}
		got = append(got, x)
	})
	if !slices.Equal(got, []int{4, 7, 4}) {
		t.Errorf("P1.5: put was called with %v", got)
	}
}

func TestPutListOfLists(t *testing.T) {
	b := written(func(w *pack.Writer) {
		pack.PutList(w, [][]int8{{1}, {}, {2, 3}}, func(w *pack.Writer, l []int8) { pack.PutList(w, l, (*pack.Writer).Int8) })
	})
	want := []byte{0, 0, 0, 3, 0, 0, 0, 1, 1, 0, 0, 0, 0, 0, 0, 0, 2, 2, 3}
	if !bytes.Equal(b, want) {
		t.Errorf("P1.5: % x, not % x", b, want)
	}
	r := pack.New(b)
	l := pack.GetList(r, 3, func(r *pack.Reader) []int8 { return pack.GetList(r, 2, (*pack.Reader).Int8) })
	if len(l) != 3 || !slices.Equal(l[0], []int8{1}) || len(l[1]) != 0 || !slices.Equal(l[2], []int8{2, 3}) || r.End() != api.OK {
		t.Errorf("P1.5: %v, End %d", l, r.End())
	}
}

func TestPutListWrongInputs(t *testing.T) {
	calls := 0
	pack.PutList(nil, []int8{5, 6}, func(*pack.Writer, int8) { calls++ })
	pack.PutList(nil, []int8{5, 6}, nil)
	if calls != 0 {
		t.Errorf("P1.5: put was called %d times for a nil Writer", calls)
	}
	var w pack.Writer
	w.Int8(9)
	pack.PutList(&w, []int8{5, 6}, nil)
	if !bytes.Equal(w.Bytes(), []byte{9, 0, 0, 0, 2}) {
		t.Errorf("P1.5: a nil put: % x", w.Bytes())
	}
}

func TestPutListPanic(t *testing.T) {
	var w pack.Writer
	pack.PutList(&w, []int8{5, 6}, func(*pack.Writer, int8) { panic("put") })
	w.Int8(7)
	if !bytes.Equal(w.Bytes(), []byte{0, 0, 0, 2, 7}) {
		t.Errorf("R1: behind a put that panics: % x", w.Bytes())
	}
}

func TestGetList(t *testing.T) {
	for _, c := range []struct {
		b    []byte
		most int
		want []int8
		e    api.Errno
		left int
	}{
		{[]byte{0, 0, 0, 0}, 0, nil, api.OK, 0},
		{[]byte{0, 0, 0, 0, 9}, 5, nil, api.OK, 1},
		{[]byte{0, 0, 0, 2, 5, 6}, 2, []int8{5, 6}, api.OK, 0},
		{[]byte{0, 0, 0, 2, 5, 6}, math.MaxInt, []int8{5, 6}, api.OK, 0},
		{[]byte{0, 0, 0, 1, 5, 6}, 2, []int8{5}, api.OK, 1},
		{[]byte{0, 0, 0, 2, 5, 6}, 1, nil, api.ErrWide, 6},
		{[]byte{0, 0, 0, 2, 5}, 2, nil, api.ErrShort, 5},
		{[]byte{0, 0, 0, 2, 5}, 1, nil, api.ErrWide, 5},
		{[]byte{0, 0, 0, 1}, 1, nil, api.ErrShort, 4},
		{[]byte{0, 0, 0}, 2, nil, api.ErrShort, 3},
		{[]byte{0, 0, 0}, -1, nil, api.ErrShort, 3},
		{nil, 2, nil, api.ErrShort, 0},
		{[]byte{0, 0, 0, 0}, -1, nil, api.ErrWide, 4},
		{[]byte{0, 0, 0, 0}, math.MinInt, nil, api.ErrWide, 4},
		{[]byte{255, 255, 255, 255}, 9, nil, api.ErrWide, 4},
		{[]byte{255, 255, 255, 255}, -1, nil, api.ErrWide, 4},
		{[]byte{0x80, 0, 0, 0}, math.MaxInt, nil, api.ErrWide, 4},
		{[]byte{0x7F, 255, 255, 255, 5, 6}, math.MaxInt, nil, api.ErrShort, 6},
	} {
		r := pack.New(c.b)
		calls := 0
		l := pack.GetList(r, c.most, func(r *pack.Reader) int8 {
			calls++
			return r.Int8()
		})
		if !slices.Equal(l, c.want) || calls != len(c.want) {
			t.Errorf("P1.5: GetList(%d) of % x: %v, %d calls", c.most, c.b, l, calls)
		}
		stands(t, "P1.5: GetList", r, c.e, c.left)
	}
}

func TestGetListOfBoolsSixthExample(t *testing.T) {
	r := pack.New([]byte{0, 0, 0, 2, 5, 6})
	if l := pack.GetList(r, 2, (*pack.Reader).Bool); len(l) != 0 {
		t.Errorf("P1.5: %v", l)
	}
	stands(t, "P1.5: GetList with Bool", r, api.ErrByte, 2)
}

// TestGetListFaultWithin: get is not called behind the first fault, and the reader stands where get left it.
func TestGetListFaultWithin(t *testing.T) {
	for at := 1; at <= 3; at++ {
		r := pack.New([]byte{0, 0, 0, 3, 1, 1, 1, 9})
		calls := 0
		l := pack.GetList(r, 3, func(r *pack.Reader) int8 {
			calls++
			v := r.Int8()
			if calls == at {
				r.Fail(api.ErrPath)
			}
			return v
		})
		if len(l) != 0 || calls != at {
			t.Errorf("P1.5: a fault at element %d: %v, %d calls", at, l, calls)
		}
		stands(t, "P1.5: a fault within", r, api.ErrPath, 4-at)
	}
}

// TestGetListShortWithin: enough bytes for the count, but not for the elements.
func TestGetListShortWithin(t *testing.T) {
	r := pack.New([]byte{0, 0, 0, 2, 0, 0, 0, 7, 8, 9})
	if l := pack.GetList(r, 2, (*pack.Reader).Int32); len(l) != 0 {
		t.Errorf("P1.5: %v", l)
	}
	stands(t, "P1.5: elements that end early", r, api.ErrShort, 2)
}

func TestGetListWithoutAReader(t *testing.T) {
	spent := pack.New([]byte{0, 0, 0, 1, 7})
	spent.Fail(api.ErrTxn)
	for name, r := range map[string]*pack.Reader{"nil": nil, "plain": {}, "faulty": spent} {
		calls := 0
		l := pack.GetList(r, 9, func(*pack.Reader) int8 {
			calls++
			return 1
		})
		if len(l) != 0 || calls != 0 || len(pack.GetList[int8](r, 9, nil)) != 0 {
			t.Errorf("P1.5: a %s Reader: %v, %d calls", name, l, calls)
		}
	}
	stands(t, "P1.5: a faulty Reader", spent, api.ErrTxn, 5)
}

func TestGetListNilGet(t *testing.T) {
	r := pack.New([]byte{0, 0, 0, 2, 5, 6})
	if l := pack.GetList[int8](r, 2, nil); !slices.Equal(l, []int8{0, 0}) {
		t.Errorf("P1.5: a nil get: %v", l)
	}
	stands(t, "P1.5: a nil get", r, api.OK, 2)
	r = pack.New([]byte{0, 0, 0, 2, 5, 6})
	if l := pack.GetList[int8](r, 1, nil); len(l) != 0 {
		t.Errorf("P1.5: a nil get of too many: %v", l)
	}
	stands(t, "P1.5: a nil get of too many", r, api.ErrWide, 6)
}

func TestGetListPanic(t *testing.T) {
	r := pack.New([]byte{0, 0, 0, 2, 5, 6})
	calls := 0
	l := pack.GetList(r, 2, func(r *pack.Reader) int8 {
		calls++
		r.Int8()
		panic("get")
	})
	if len(l) != 0 || calls != 1 {
		t.Errorf("R1: behind a get that panics: %v, %d calls", l, calls)
	}
	stands(t, "R1: a get that panics", r, api.ErrArg, 1)
}

// TestGetListCountTakesNoRoom: a count that the bytes allow, of elements so wide that room for all of them at once could not be had.
func TestGetListCountTakesNoRoom(t *testing.T) {
	b := append([]byte{0, 0x10, 0, 0}, make([]byte, 1<<20)...)
	r := pack.New(b)
	l := pack.GetList(r, 1<<20, func(r *pack.Reader) [1 << 20]int64 {
		r.Fail(api.ErrTxn)
		return [1 << 20]int64{}
	})
	if len(l) != 0 || r.Err() != api.ErrTxn {
		t.Errorf("R1: %d elements, %d", len(l), r.Err())
	}
}
