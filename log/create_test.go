package log_test

import (
	"math"
	"testing"

	"lagoon/api"
	"lagoon/disk"
	"lagoon/log"
)

func TestCreate(t *testing.T) {
	d := diskOf(t)
	l := created(t, d, 5, 2, opens(1, 3))
	tells(t, "P10.2", l, 5, 2, opens(1, 3))
	holds(t, "P10.2", d, filesOf(t, 5, opens(1, 2), opens(3, 3))...)
	counted(t, "P10.2", d, 4)
}

// TestCreateWithout: segment 1 alone, without bytes, by two writes; once more it is there.
func TestCreateWithout(t *testing.T) {
	for _, none := range [][]api.Txn{nil, {}, make([]api.Txn, 0, 3)} {
		d := roomOf(t, 0)
		l := created(t, d, 6, 2, none)
		tells(t, "P10.2: without transactions", l, 6, 1, nil)
		holds(t, "P10.2: without transactions", d, file("log.6.1"))
		counted(t, "P10.2: without transactions", d, 2)
		again, e := log.Create(d, 6, 2, none)
		refused(t, "P10.2: once more", again, e, api.ErrName)
		none, e := log.Open(d, 7, 2, api.Zxid{})
		refused(t, "P10.3: another number", none, e, api.ErrFile)
		counted(t, "P10.2: once more", d, 2)
	}
}

// TestCreateSizes: each segment has size transactions, the last one what is left.
func TestCreateSizes(t *testing.T) {
	for _, size := range []int{1, 2, 3, 63, 64} {
		for _, n := range []int{0, 1, 2, 3, size - 1, size, size + 1, 2*size - 1, 2 * size, 2*size + 1, 15 * size} {
			all := opens(1, uint32(n))
			var parts [][]api.Txn
			for at := 0; at == 0 || at < n; at += size {
				parts = append(parts, all[at:min(at+size, n)])
			}
			d := diskOf(t)
			l := created(t, d, math.MaxInt64, size, all)
			tells(t, "P10.2", l, math.MaxInt64, len(parts), all)
			holds(t, "P10.2", d, filesOf(t, math.MaxInt64, parts...)...)
			counted(t, "P10.2", d, 2*len(parts))
			tells(t, "P10.3", opened(t, d, math.MaxInt64, size, api.Zxid{}), math.MaxInt64, len(parts), all)
			counted(t, "P10.3: Open writes nothing", d, 2*len(parts))
		}
	}
}

// TestCreateKinds: the first zxid, the greatest one, other epochs, transactions of all widths.
func TestCreateKinds(t *testing.T) {
	last := open(1)
	last.Zxid = api.Zxid{Epoch: api.LastEpoch, N: api.LastCounter}
	early := open(1)
	early.Zxid = api.Zxid{Epoch: 2, N: 1}
	all := []api.Txn{open(1), widest(2), open(math.MaxUint32), early, last}
	if b := segment(t, widest(2)); len(b) != 3486+9 {
		t.Fatalf("the test's own transaction has %d bytes", len(b)-9)
	}
	d := diskOf(t)
	tells(t, "P10.2", created(t, d, 1, 4, all), 1, 2, all)
	holds(t, "P10.2", d, filesOf(t, 1, all[:4], all[4:])...)
	tells(t, "P10.3", opened(t, d, 1, 4, api.Zxid{}), 1, 2, all)
}

// TestCreateErrors: whatever faults come together, the answer is the first one's, and nothing is done.
func TestCreateErrors(t *testing.T) {
	names := []string{"disk", "number", "size", "txn", "order", "power", "name"}
	errors := []api.Errno{api.ErrArg, api.ErrArg, api.ErrArg, api.ErrTxn, api.ErrOrder, api.ErrDown, api.ErrName}
	numbers, sizes, bad := []int64{0, -1, math.MinInt64}, []int{0, 65, -1, math.MinInt, math.MaxInt}, wrong()
	for faults := 1; faults < 1<<len(names); faults++ {
		has := func(i int) bool { return faults>>i&1 == 1 }
		d := diskOf(t)
		number, size, l := int64(5), 2, opens(3, 5)
		if has(1) {
			number = numbers[faults%len(numbers)]
		}
		if has(2) {
			size = sizes[faults%len(sizes)]
		}
		if has(4) {
			l[1], l[2] = l[2], l[1]
		}
		if has(3) {
			l = append(l, bad[faults%len(bad)])
		}
		if has(6) {
			d = diskOf(t, file("log.5.3"))
		}
		before := d.Image()
		if has(5) {
			d.Off()
		}
		handed := d
		if has(0) {
			handed = []*disk.Disk{nil, {}}[faults>>1&1]
		}
		first := 0
		for !has(first) {
			first++
		}
		made, e := log.Create(handed, number, size, l)
		refused(t, "P10.2: the fault of "+names[first], made, e, errors[first])
		holds(t, "P10.2: a fault", d, before...)
		counted(t, "P10.2: a fault", d, 0)
	}
}

// TestCreateNone: each transaction that may not be is none wherever it stands.
func TestCreateNone(t *testing.T) {
	for i, bad := range wrong() {
		for at := range 4 {
			d := diskOf(t)
			l := opens(1, 4)
			l[at] = bad
			made, e := log.Create(d, 5, 2, l)
			refused(t, "P10.2: not a transaction", made, e, api.ErrTxn)
			if len(d.Names()) > 0 {
				t.Errorf("P10.2: row %d at %d: files %q", i, at, d.Names())
			}
		}
	}
}

func TestCreateOrder(t *testing.T) {
	up := open(1)
	up.Zxid.Epoch = 2
	for i, c := range []struct {
		l []api.Txn
		e api.Errno
	}{
		{[]api.Txn{open(2), open(2)}, api.ErrOrder},
		{[]api.Txn{open(2), open(1)}, api.ErrOrder},
		{[]api.Txn{up, open(2)}, api.ErrOrder},
		{[]api.Txn{open(1), open(3), open(4), open(2)}, api.ErrOrder},
		{[]api.Txn{open(1), open(2), open(4), open(4)}, api.ErrOrder},
		{[]api.Txn{open(2), open(4), up}, api.OK},
		{[]api.Txn{open(9)}, api.OK},
	} {
		d := diskOf(t)
		made, e := log.Create(d, 5, 2, c.l)
		if e != c.e || (made == nil) == (e == api.OK) || (len(d.Names()) == 0) == (e == api.OK) {
			t.Errorf("P10.2: row %d: %d, files %q", i, e, d.Names())
		}
	}
}

// TestCreateThere: any segment of this log is one too many; what is nearly one is none.
func TestCreateThere(t *testing.T) {
	for _, name := range []string{"log.5.1", "log.5.2", "log.5.9", "log.5.a", "log.5.10", "log.5.40", "log.5.41", "log.5.100", "log.5.ffe", "log.5.fff"} {
		d := diskOf(t, file("a"), file(name, []byte("x")), file("z"))
		made, e := log.Create(d, 5, 2, opens(1, 3))
		refused(t, "P10.2: beside "+name, made, e, api.ErrName)
		holds(t, "P10.2: beside "+name, d, file("a"), file(name, []byte("x")), file("z"))
		counted(t, "P10.2: beside "+name, d, 0)
	}
	for _, name := range nearNames() {
		d := diskOf(t, file(name, []byte("x")))
		tells(t, "P10.2: beside "+name, created(t, d, 5, 2, opens(1, 3)), 5, 2, opens(1, 3))
		holds(t, "P10.2: beside "+name, d, append(filesOf(t, 5, opens(1, 2), opens(3, 3)), file(name, []byte("x")))...)
	}
}

// TestCreateRefused: what was written ahead of the refused write stays, and there is no log.
func TestCreateRefused(t *testing.T) {
	parts := [][]api.Txn{opens(1, 2), opens(3, 4), opens(5, 5)}
	all := opens(1, 5)
	for _, c := range []struct{ room, segments int }{
		{0, 0}, {2*frameBytes - 1, 0}, {2 * frameBytes, 1}, {4*frameBytes - 1, 1}, {4 * frameBytes, 2}, {5*frameBytes - 1, 2},
	} {
		d := roomOf(t, c.room)
		made, e := log.Create(d, 5, 2, all)
		refused(t, "P10.2: no room", made, e, api.ErrFull)
		holds(t, "P10.2: no room", d, filesOf(t, 5, parts[:c.segments]...)...)
		counted(t, "P10.2: no room", d, 2*c.segments)
	}
	d := roomOf(t, 5*frameBytes)
	created(t, d, 5, 2, all)
	holds(t, "P10.2: just so much room", d, filesOf(t, 5, parts...)...)
}

// TestCreateFiles: as many segments as a disk has files, and one more.
func TestCreateFiles(t *testing.T) {
	d := diskOf(t)
	l := created(t, d, 5, 1, opens(1, api.MaxFiles))
	tells(t, "P10.2: MaxFiles", l, 5, api.MaxFiles, opens(1, api.MaxFiles))
	counted(t, "P10.2: MaxFiles", d, 2*api.MaxFiles)
	tells(t, "P10.3: MaxFiles", opened(t, d, 5, 1, api.Zxid{}), 5, api.MaxFiles, opens(1, api.MaxFiles))

	d = diskOf(t)
	made, e := log.Create(d, 5, 1, opens(1, api.MaxFiles+1))
	refused(t, "P10.2: one more", made, e, api.ErrName)
	counted(t, "P10.2: one more", d, 2*api.MaxFiles)
	tells(t, "P10.2: what was written stays", opened(t, d, 5, 1, api.Zxid{}), 5, api.MaxFiles, opens(1, api.MaxFiles))

	d = diskOf(t, file("a"))
	made, e = log.Create(d, 5, api.MaxSegment, opens(1, api.MaxSegment*api.MaxFiles))
	refused(t, "P10.2: one more, beside another file", made, e, api.ErrName)
	tells(t, "P10.2: what was written stays", opened(t, d, 5, 1, api.Zxid{}), 5, api.MaxFiles-1, opens(1, api.MaxSegment*(api.MaxFiles-1)))
}

// TestTwoLogs: two logs on one disk know nothing of each other.
func TestTwoLogs(t *testing.T) {
	d := diskOf(t)
	a := created(t, d, 1, 1, opens(1, 2))
	b := created(t, d, 0x11, 2, opens(7, 9))
	answers(t, "P10.4: the first", a.Append(open(3)), api.OK)
	answers(t, "P10.4: the second", b.Append(open(10)), api.OK)
	tells(t, "R6: the first", a, 1, 3, opens(1, 3))
	tells(t, "R6: the second", b, 0x11, 2, opens(7, 10))
	tells(t, "R6: the first, opened", opened(t, d, 1, 1, api.Zxid{}), 1, 3, opens(1, 3))
	tells(t, "R6: the second, opened", opened(t, d, 0x11, 2, z(6)), 0x11, 2, opens(7, 10))
}
