package log_test

import (
	"fmt"
	"testing"

	"lagoon/api"
	"lagoon/disk"
	"lagoon/log"
)

// write: one of a disk, as it can be done to any.
type write func(d *disk.Disk) api.Errno

func puts(name string, p []byte) write {
	return func(d *disk.Disk) api.Errno { return d.Append(name, p) }
}

func syncs(name string) write { return func(d *disk.Disk) api.Errno { return d.Sync(name) } }

func cuts(name string, n int) write { return func(d *disk.Disk) api.Errno { return d.Cut(name, n) } }

// lost: a loss of power in a call: the disk behind it, how many writes were done, what the call answered.
type lost struct {
	d    *disk.Disk
	done int
	e    api.Errno
}

// plays looks that a call does just these writes, in this order: it is armed with each number of them, and the files are held against those of another disk on which so many were done. Behind each it is turned off, and started again with each number of the bytes that were not synced: behind looks at that.
func plays(t *testing.T, what string, files []api.File, call func(d *disk.Disk, arm func()) api.Errno, behind func(l lost), writes ...write) {
	t.Helper()
	for done := range len(writes) + 1 {
		for keep := 0; ; keep++ {
			d, other := diskOf(t, files...), diskOf(t, files...)
			before := 0
			e := call(d, func() { before = d.Writes(); d.Arm(done) })
			for _, w := range writes[:done] {
				if e := w(other); e != api.OK {
					t.Fatalf("%s: the test's own write: %d", what, e)
				}
			}
			where := fmt.Sprintf("%s, %d writes", what, done)
			holds(t, where, d, other.Image()...)
			counted(t, where, d, before+done)
			if all := done == len(writes); (e == api.OK) != all || !all && e != api.ErrDown || d.On() != all {
				t.Errorf("%s: %d, power %v", where, e, d.On())
			}
			tail := 0
			var stay []int
			for _, f := range d.Image() {
				tail = max(tail, len(f.Bytes)-f.Synced)
				stay = append(stay, keep)
			}
			d.Off()
			d.Start(stay...)
			behind(lost{d, done, e})
			if keep > tail {
				break
			}
		}
	}
}

// length: how many bytes a file has; -1: there is none.
func length(d *disk.Disk, name string) int {
	b, e := d.Read(name)
	if e != api.OK {
		return -1
	}
	return len(b)
}

// TestCreatePower: five transactions in three segments: six writes, and what each beginning of them is to an Open.
func TestCreatePower(t *testing.T) {
	parts := [][]api.Txn{opens(1, 2), opens(3, 4), opens(5, 5)}
	var writes []write
	for i, p := range parts {
		writes = append(writes, puts(log.Name(5, i+1), segment(t, p...)), syncs(log.Name(5, i+1)))
	}
	call := func(d *disk.Disk, arm func()) api.Errno {
		arm()
		made, e := log.Create(d, 5, 2, opens(1, 5))
		if (made == nil) == (e == api.OK) {
			t.Errorf("P10.2: %d beside a log %v", e, made != nil)
		}
		return e
	}
	behind := func(l lost) {
		if l.done == 0 {
			none, e := log.Open(l.d, 5, 2, api.Zxid{})
			refused(t, "P10.3: nothing was written", none, e, api.ErrFile)
			return
		}
		n, segments := 0, 0
		for _, f := range l.d.Image() {
			n += len(f.Bytes) / frameBytes
			segments++
		}
		if l.done%2 == 0 && n != min(l.done, 5) || n < l.done/2*2 && l.e != api.OK || l.e == api.OK && n != 5 {
			t.Errorf("What follows: behind %d writes %d transactions", l.done, n)
		}
		goesOn(t, l.d, segments, opens(1, uint32(n)))
	}
	plays(t, "P10.2", nil, call, behind, writes...)
	plays(t, "P10.2: beside another file", []api.File{file("a", []byte("x"))}, call, func(lost) {}, writes...)
	none := func(d *disk.Disk, arm func()) api.Errno {
		arm()
		_, e := log.Create(d, 5, 2, nil)
		return e
	}
	plays(t, "P10.2: without transactions", nil, none, func(l lost) {
		if l.done > 0 {
			goesOn(t, l.d, 1, nil)
		}
	}, puts("log.5.1", nil), syncs("log.5.1"))
}

// goesOn looks that the log is found with these transactions, takes some more, and is found with them, too.
func goesOn(t *testing.T, d *disk.Disk, segments int, all []api.Txn) {
	t.Helper()
	l := opened(t, d, 5, 2, api.Zxid{})
	tells(t, "P10.3: behind a loss of power", l, 5, segments, all)
	for _, f := range d.Image() {
		if len(f.Bytes)%frameBytes != 0 || f.Synced != len(f.Bytes) {
			t.Errorf("P10.3: %s has %d bytes, %d of them durable", f.Name, len(f.Bytes), f.Synced)
		}
	}
	for range 3 {
		next := open(uint32(len(all)) + 1)
		answers(t, "P10.4: behind a loss of power", l.Append(next), api.OK)
		all = append(all, next)
	}
	d.Off()
	d.Start()
	tells(t, "P10.3: what was appended", opened(t, d, 5, 2, api.Zxid{}), 5, len(l.Names()), all)
}

// TestAppendPower: into a segment that has room, into the next one, and into one that is empty.
func TestAppendPower(t *testing.T) {
	for _, n := range []uint32{0, 1, 2, 3, 4} {
		into := log.Name(5, max(1, int(n)/2+1))
		next := open(n + 1)
		first := diskOf(t)
		created(t, first, 5, 2, opens(1, n))
		was := max(length(first, into), 0)
		call := func(d *disk.Disk, arm func()) api.Errno {
			l := opened(t, d, 5, 2, api.Zxid{})
			arm()
			e := l.Append(next)
			all, segments := opens(1, n), max(1, int(n+1)/2)
			if e == api.OK {
				all, segments = opens(1, n+1), int(n+2)/2
			}
			tells(t, "P10.4: with or without it", l, 5, segments, all)
			return e
		}
		behind := func(l lost) {
			segments := max(1, int(n+1)/2)
			if length(l.d, into) >= 0 {
				segments = max(1, int(n)/2+1)
			}
			all := opens(1, n)
			if length(l.d, into) == was+frameBytes {
				all = opens(1, n+1)
			}
			if l.e == api.OK && len(all) != int(n)+1 || l.done == 0 && len(all) != int(n) {
				t.Errorf("What follows: behind %d writes %d transactions, answered %d", l.done, len(all), l.e)
			}
			goesOn(t, l.d, segments, all)
		}
		plays(t, "P10.4", first.Image(), call, behind, puts(into, segment(t, next)), syncs(into))
	}
}

// TestOpenPower: its one write is a Cut.
func TestOpenPower(t *testing.T) {
	b := segment(t, opens(1, 2)...)
	call := func(d *disk.Disk, arm func()) api.Errno {
		arm()
		l, e := log.Open(d, 5, 2, api.Zxid{})
		if (l == nil) == (e == api.OK) {
			t.Errorf("P10.3: %d beside a log %v", e, l != nil)
		}
		return e
	}
	plays(t, "P10.3", []api.File{file("log.5.1", b[:frameBytes+5])}, call, func(l lost) { goesOn(t, l.d, 1, opens(1, 1)) }, cuts("log.5.1", frameBytes))
	plays(t, "P10.3: nothing whole", []api.File{file("log.5.1", b[:5])}, call, func(l lost) { goesOn(t, l.d, 1, nil) }, cuts("log.5.1", 0))
	plays(t, "P10.3: nothing torn", []api.File{file("log.5.1", b)}, call, func(l lost) { goesOn(t, l.d, 1, opens(1, 2)) })
}

// TestExamplePower: example 4.
func TestExamplePower(t *testing.T) {
	for _, keep := range []int{5, frameBytes} {
		d := diskOf(t)
		l := created(t, d, 5, 2, opens(1, 3))
		d.Arm(1)
		answers(t, "P10.4: the Sync is not done", l.Append(open(4)), api.ErrDown)
		tells(t, "P10.4: the Sync is not done", l, 5, 2, opens(1, 3))
		d.Start(0, keep)
		n := uint32(3 + keep/frameBytes)
		tells(t, "P10.3", opened(t, d, 5, 2, api.Zxid{}), 5, 2, opens(1, n))
		holds(t, "P10.3", d, filesOf(t, 5, opens(1, 2), opens(3, n))...)
	}
}
