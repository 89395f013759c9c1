package log_test

import (
	"math"
	"slices"
	"testing"

	"lagoon/api"
	"lagoon/log"
)

// TestAppend: example 2.
func TestAppend(t *testing.T) {
	d := diskOf(t)
	l := created(t, d, 5, 2, opens(1, 3))
	answers(t, "P10.4: a fourth", l.Append(open(4)), api.OK)
	holds(t, "P10.4: a fourth", d, filesOf(t, 5, opens(1, 2), opens(3, 4))...)
	tells(t, "P10.4: a fourth", l, 5, 2, opens(1, 4))
	answers(t, "P10.4: a fifth", l.Append(open(5)), api.OK)
	holds(t, "P10.4: a fifth", d, filesOf(t, 5, opens(1, 2), opens(3, 4), opens(5, 5))...)
	tells(t, "P10.4: a fifth", l, 5, 3, opens(1, 5))
	counted(t, "P10.4", d, 8)
}

// TestAppendSizes: a segment is full with size transactions; one that has more stays as it is.
func TestAppendSizes(t *testing.T) {
	for _, size := range []int{1, 2, 3, 64} {
		for _, n := range []int{0, 1, size - 1, size, size + 1, 64} {
			d := diskOf(t, filesOf(t, 5, opens(1, uint32(n)))...)
			l := opened(t, d, 5, size, api.Zxid{})
			more := []api.Txn{open(uint32(n) + 1), open(uint32(n) + 2)}
			for _, x := range more {
				answers(t, "P10.4", l.Append(x), api.OK)
			}
			parts := [][]api.Txn{opens(1, uint32(n))}
			for _, x := range more {
				if end := len(parts) - 1; len(parts[end]) < size {
					parts[end] = append(parts[end], x)
				} else {
					parts = append(parts, []api.Txn{x})
				}
			}
			tells(t, "P10.4", l, 5, len(parts), opens(1, uint32(n)+2))
			holds(t, "P10.4", d, filesOf(t, 5, parts...)...)
			counted(t, "P10.4", d, 4)
		}
	}
}

// TestAppendEmptyEnd: an empty last segment is the one that is written to, and what it may hold is counted from there.
func TestAppendEmptyEnd(t *testing.T) {
	d := diskOf(t, filesOf(t, 5, opens(1, 2), nil)...)
	l := opened(t, d, 5, 2, api.Zxid{})
	for n := range uint32(3) {
		answers(t, "P10.4", l.Append(open(3+n)), api.OK)
	}
	holds(t, "P10.4: an empty last segment", d, filesOf(t, 5, opens(1, 2), opens(3, 4), opens(5, 5))...)
	tells(t, "P10.4: an empty last segment", l, 5, 3, opens(1, 5))

	// A torn end that Open cut off does not count.
	d = diskOf(t, file("log.5.1", segment(t, opens(1, 2)...)[:2*frameBytes-1]))
	l = opened(t, d, 5, 2, api.Zxid{})
	answers(t, "P10.4", l.Append(open(2)), api.OK)
	answers(t, "P10.4", l.Append(open(3)), api.OK)
	holds(t, "P10.4: behind a cut", d, filesOf(t, 5, opens(1, 2), opens(3, 3))...)
}

func TestAppendOrder(t *testing.T) {
	up := open(1)
	up.Zxid.Epoch = 2
	down := open(9)
	last := open(1)
	last.Zxid = api.Zxid{Epoch: api.LastEpoch, N: api.LastCounter}
	d := diskOf(t)
	l := created(t, d, 5, 2, nil)
	all := []api.Txn{}
	for i, c := range []struct {
		x api.Txn
		e api.Errno
	}{
		{open(4), api.OK}, {open(4), api.ErrOrder}, {open(3), api.ErrOrder}, {open(1), api.ErrOrder}, {open(6), api.OK}, {open(5), api.ErrOrder},
		{up, api.OK}, {down, api.ErrOrder}, {up, api.ErrOrder}, {last, api.OK}, {last, api.ErrOrder}, {up, api.ErrOrder},
	} {
		before, n := d.Image(), d.Writes()
		if e := l.Append(c.x); e != c.e {
			t.Errorf("P10.4: row %d: %d, not %d", i, e, c.e)
		}
		if c.e == api.OK {
			all = append(all, c.x)
			counted(t, "P10.4", d, n+2)
		} else {
			holds(t, "P10.4: refused", d, before...)
			counted(t, "P10.4: refused", d, n)
		}
		tells(t, "P10.4", l, 5, max(1, (len(all)+1)/2), all)
	}
}

// TestAppendAfter: without transactions the next one must be above after; of a created log, above zero.
func TestAppendAfter(t *testing.T) {
	for _, after := range []api.Zxid{{}, z(0), z(1), z(7), {Epoch: 1, N: math.MaxUint32}, {N: 3}, {Epoch: 3}} {
		for _, files := range [][]api.File{{file("log.5.1")}, {file("log.5.1", []byte{1, 2})}} {
			d := diskOf(t, files...)
			l := opened(t, d, 5, 2, after)
			at, above := open(1), open(1)
			at.Zxid = after
			above.Zxid = api.Zxid{Epoch: max(after.Epoch, 1), N: after.N + 1}
			if after.N == math.MaxUint32 {
				above.Zxid = api.Zxid{Epoch: 2, N: 1}
			}
			if after.Epoch > 0 && after.N > 0 {
				answers(t, "P10.4: at after", l.Append(at), api.ErrOrder)
			}
			if after.N > 1 && after.Epoch > 0 {
				at.Zxid.N--
				answers(t, "P10.4: below after", l.Append(at), api.ErrOrder)
			}
			answers(t, "P10.4: above after", l.Append(above), api.OK)
			tells(t, "P10.4: above after", l, 5, 1, []api.Txn{above})
			answers(t, "P10.4: once more", l.Append(above), api.ErrOrder)
		}
	}
	l := created(t, diskOf(t), 5, 2, nil)
	answers(t, "P10.4: the least zxid behind a created log", l.Append(open(1)), api.OK)

	// With transactions after says nothing more.
	l = opened(t, diskOf(t, filesOf(t, 5, opens(4, 5))...), 5, 2, z(2))
	answers(t, "P10.4: above after but not above Last", l.Append(open(5)), api.ErrOrder)
	answers(t, "P10.4: above Last", l.Append(open(6)), api.OK)
}

// TestAppendErrors: whatever faults come together, the answer is the first one's, and nothing is changed.
func TestAppendErrors(t *testing.T) {
	for _, bad := range wrong() {
		for _, down := range []bool{false, true} {
			d := diskOf(t)
			l := created(t, d, 5, 2, opens(1, 10))
			if down {
				d.Off()
			}
			before := d.Image()
			answers(t, "P10.4: not a transaction", l.Append(bad), api.ErrTxn)
			low := bad
			low.Zxid = z(1)
			if low.Req.Kind == api.Open && low.From.Server == 3 {
				low.Req.Timeout = 0
			}
			answers(t, "P10.4: not a transaction, and not above Last", l.Append(low), api.ErrTxn)
			answers(t, "P10.4: not above Last", l.Append(open(10)), api.ErrOrder)
			holds(t, "P10.4: refused", d, before...)
			counted(t, "P10.4: refused", d, 10)
			tells(t, "P10.4: refused", l, 5, 5, opens(1, 10))
		}
	}
	d := diskOf(t)
	l := created(t, d, 5, 2, opens(1, 2))
	d.Off()
	answers(t, "P10.4: without power", l.Append(open(3)), api.ErrDown)
	tells(t, "P10.4: without power", l, 5, 1, opens(1, 2))
	for _, none := range []*log.Log{nil, {}} {
		for _, x := range append(wrong(), open(1)) {
			answers(t, "R3: no log", none.Append(x), api.ErrArg)
		}
	}
}

// TestAppendFull: no room: nothing is changed, and what has room is taken later.
func TestAppendFull(t *testing.T) {
	for n := range uint32(5) {
		for spare := range frameBytes {
			d := roomOf(t, int(n)*frameBytes+spare)
			l := created(t, d, 5, 2, opens(1, n))
			before, writes := d.Image(), d.Writes()
			for range 2 {
				answers(t, "P10.4: no room", l.Append(open(n+1)), api.ErrFull)
			}
			holds(t, "P10.4: no room", d, before...)
			counted(t, "P10.4: no room", d, writes)
			tells(t, "P10.4: no room", l, 5, max(1, (int(n)+1)/2), opens(1, n))
			answers(t, "P10.4: no room, ErrOrder first", l.Append(api.Txn{Zxid: z(n), Req: open(1).Req}), []api.Errno{api.ErrTxn, api.ErrOrder}[min(n, 1)])
		}
	}
	d := roomOf(t, 2*frameBytes)
	l := created(t, d, 5, 2, opens(1, 1))
	answers(t, "P10.4: too wide", l.Append(widest(2)), api.ErrFull)
	answers(t, "P10.4: behind one that was too wide", l.Append(open(2)), api.OK)
	tells(t, "P10.4: behind one that was too wide", l, 5, 1, opens(1, 2))
}

// TestAppendFiles: no file may come any more: nothing is changed; where one goes, the next one is taken.
func TestAppendFiles(t *testing.T) {
	var others []api.File
	for i := range api.MaxFiles - 1 {
		others = append(others, file(log.Name(9, i+1)))
	}
	d := diskOf(t, others...)
	l := created(t, d, 5, 2, opens(1, 1))
	answers(t, "P10.4: into the last segment", l.Append(open(2)), api.OK)
	before := d.Image()
	for range 2 {
		answers(t, "P10.4: too many files", l.Append(open(3)), api.ErrName)
	}
	holds(t, "P10.4: too many files", d, before...)
	tells(t, "P10.4: too many files", l, 5, 1, opens(1, 2))
	counted(t, "P10.4: too many files", d, 4)
	answers(t, "the disk", d.Remove(others[7].Name), api.OK)
	answers(t, "P10.4: a file less", l.Append(open(3)), api.OK)
	tells(t, "P10.4: a file less", l, 5, 2, opens(1, 3))

	d = diskOf(t)
	l = created(t, d, 1, 1, opens(1, 64))
	answers(t, "P10.4: a segment 65", l.Append(open(65)), api.ErrName)
	tells(t, "P10.4: a segment 65", l, 1, 64, opens(1, 64))
}

// TestAppendMost: as many transactions as a disk has files and a segment may have, one by one.
func TestAppendMost(t *testing.T) {
	const most = api.MaxFiles * api.MaxSegment
	d := diskOf(t)
	l := created(t, d, 5, api.MaxSegment, nil)
	for n := range uint32(most) {
		if e := l.Append(open(n + 1)); e != api.OK {
			t.Fatalf("P10.4: number %d: %d", n+1, e)
		}
	}
	answers(t, "P10.4: one more", l.Append(open(most+1)), api.ErrName)
	tells(t, "P10.4: the most", l, 5, api.MaxFiles, opens(1, most))
	tells(t, "P10.3: the most", opened(t, d, 5, 1, api.Zxid{}), 5, api.MaxFiles, opens(1, most))
	other := diskOf(t)
	created(t, other, 5, api.MaxSegment, opens(1, most))
	holds(t, "What follows: one by one the same files", d, other.Image()...)
}

// TestNames: in the order of their numbers, not of their letters, and each log's its own.
func TestNames(t *testing.T) {
	l := created(t, diskOf(t), 0xab, 1, opens(1, 17))
	want := []string{"log.ab.1", "log.ab.2", "log.ab.3", "log.ab.4", "log.ab.5", "log.ab.6", "log.ab.7", "log.ab.8", "log.ab.9",
		"log.ab.a", "log.ab.b", "log.ab.c", "log.ab.d", "log.ab.e", "log.ab.f", "log.ab.10", "log.ab.11"}
	if got := l.Names(); !slices.Equal(got, want) {
		t.Errorf("P10.5: Names %q", got)
	}
	for i, x := range l.All() {
		if x.Zxid != z(uint32(i)+1) {
			t.Errorf("P10.5: All: at %d stands %v", i, x.Zxid)
		}
	}
	for _, none := range []*log.Log{nil, {}} {
		if len(none.All()) != 0 || len(none.Names()) != 0 {
			t.Errorf("R3: no log tells %v, %q", none.All(), none.Names())
		}
	}
}
