package store_test

import (
	"fmt"
	"testing"

	"lagoon/api"
	"lagoon/disk"
	"lagoon/store"
)

// replayed is another disk with these files, on which writes were done one by one.
func replayed(t *testing.T, files []api.File, writes []write) *disk.Disk {
	t.Helper()
	d := diskOf(t, files...)
	for i, w := range writes {
		if e := w.do(d); e != api.OK {
			t.Fatalf("the test's own write %d: %d", i, e)
		}
	}
	return d
}

// tail: how many bytes of a disk's files are not synced, at most.
func tail(d *disk.Disk) int {
	most := 0
	for _, f := range d.Image() {
		most = max(most, len(f.Bytes)-f.Synced)
	}
	return most
}

// length: how many bytes a file has; -1: there is none.
func length(d *disk.Disk, name string) int {
	b, e := d.Read(name)
	if e != api.OK {
		return -1
	}
	return len(b)
}

// left is the server that a later Open should find, where so many of the writes were done and the disk has its power again.
func (c step) left(d *disk.Disk, done int) server {
	if done >= len(c.writes) {
		return c.after
	}
	last := len(c.after.segments) - 1
	if c.what[:5] != "P12.3" || done == 0 {
		return c.before
	}
	if length(d, fmt.Sprintf("log.%x.%x", c.after.Log, last+1)) == len(frames(c.after.segments[last])) {
		return c.after // all of an Append's bytes are there, though they were not synced
	}
	torn := c.before
	if last == len(c.before.segments) {
		torn.segments = append(torn.segments[:last:last], nil) // a segment was begun
	}
	return torn
}

// TestPower: the power goes ahead of each write of each call, and behind the last; each number of bytes of what was not synced stays.
func TestPower(t *testing.T) {
	everyStep(func(c step) {
		for done := range len(c.all()) + 1 {
			for keep := 0; ; keep++ {
				what := fmt.Sprintf("P12.6: %s, %d writes, %d bytes kept", c.what, done, keep)
				d, s := c.begun(t, api.MaxRoom)
				n := d.Writes()
				d.Arm(done)
				want, told := api.OK, c.after
				if done < len(c.writes) {
					want, told = api.ErrDown, c.before
				}
				answers(t, what, c.call(s), want)
				holds(t, what, d, replayed(t, c.before.files(), c.all()[:done]).Image()...)
				counted(t, what, d, n+done)
				tells(t, what, s, told)
				if d.On() != (done == len(c.all())) {
					t.Errorf("%s: power %v", what, d.On())
				}
				most := tail(d)
				d.Off()
				tells(t, what+", off", s, told)
				restarted(d, keep)
				finds(t, what, d, c.left(d, done))
				if keep > most {
					break
				}
			}
		}
	})
}

// TestNoPower: each call without power, whatever else is wrong.
func TestNoPower(t *testing.T) {
	everyStep(func(c step) {
		d, s := c.begun(t, api.MaxRoom)
		d.Off()
		n := d.Writes()
		answers(t, c.what+", off", c.call(s), api.ErrDown)
		counted(t, c.what+", off", d, n)
		tells(t, c.what+", off", s, c.before)
		holds(t, c.what+", off", d, c.before.files()...)
		restarted(d, 0)
		finds(t, c.what+", off", d, c.before)
	})
}

// TestPowerAgain: the Open behind a loss of power is cut short, too, and the one behind that: nothing is lost, and no start that was counted is.
func TestPowerAgain(t *testing.T) {
	everyStep(func(c step) {
		for done := range len(c.all()) + 1 {
			for again := 0; ; again++ {
				d, s := c.begun(t, api.MaxRoom)
				d.Arm(done)
				c.call(s)
				restarted(d, 3)
				want := c.left(d, done)
				d.Arm(again)
				what := fmt.Sprintf("P12.1: %s, %d writes, then an Open of %d", c.what, done, again)
				found, e := store.Open(d, want.size)
				if e == api.OK {
					tells(t, what, found, want.booted())
					restarted(d, 3)
					finds(t, what, d, want.booted())
					break
				}
				if e != api.ErrDown || found != nil {
					t.Errorf("%s: %d, a store %v", what, e, found != nil)
				}
				restarted(d, 3)
				finds(t, what, d, want)
			}
		}
	})
}

// TestPowerExample: example 5.
func TestPowerExample(t *testing.T) {
	brought := api.Brought{Epoch: 4, Cut: z("1.2"), Txns: txns("2.1")}
	for armed, want := range map[int]api.Errno{6: api.ErrDown, 7: api.OK} {
		d, s := started(t, served(api.Manifest{Boot: 0, Accepted: 4, Current: 3, Log: 1}, "", "1.1 1.2 1.3"))
		d.Arm(armed)
		what := fmt.Sprintf("example 5, armed with %d", armed)
		answers(t, what, s.Take(brought), want)
		d.Off()
		left := map[int]int{6: 6, 7: 5}[armed] // with 6: a new log and a new manifest beside the old ones
		if n := len(d.Names()); n != left {
			t.Errorf("%s: files %v", what, d.Names())
		}
		d.Start()
		found := opened(t, d, 2)
		if armed == 6 {
			tells(t, what, found, served(api.Manifest{Boot: 2, Accepted: 4, Current: 3, Log: 1}, "", "1.1 1.2 1.3"))
			holds(t, what, d, served(api.Manifest{Boot: 2, Accepted: 4, Current: 3, Log: 1}, "", "1.1 1.2 1.3").files()...)
		} else {
			tells(t, what, found, served(api.Manifest{Boot: 2, Accepted: 4, Current: 4, Log: 2}, "", "1.1 1.2 2.1"))
			holds(t, what, d, served(api.Manifest{Boot: 2, Accepted: 4, Current: 4, Log: 2}, "", "1.1 1.2 2.1").files()...)
		}
	}
}
