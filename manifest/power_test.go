package manifest_test

import (
	"fmt"
	"testing"

	"lagoon/api"
	"lagoon/disk"
	"lagoon/manifest"
)

// write: one of a disk, as it can be done to any.
type write func(d *disk.Disk) api.Errno

// writesOf are those of a Put, by the document's words.
func writesOf(s state, m api.Manifest) []write {
	all := []write{
		func(d *disk.Disk) api.Errno { return d.Append("manifest.new", laid(m)) },
		func(d *disk.Disk) api.Errno { return d.Sync("manifest.new") },
		func(d *disk.Disk) api.Errno { return d.Rename("manifest.new", "manifest") },
	}
	if !s.left {
		return all
	}
	remove := func(d *disk.Disk) api.Errno { return d.Remove("manifest.new") }
	return append([]write{remove}, all...)
}

// cutShort is a disk on which a Put was armed with so many writes; it is held against another disk on which they were done one by one.
func cutShort(t *testing.T, s state, done int) *disk.Disk {
	t.Helper()
	d, other := diskOf(t, api.MaxRoom, s.files...), diskOf(t, api.MaxRoom, s.files...)
	writes := writesOf(s, newer)
	for _, w := range writes[:done] {
		answers(t, "the test's own write", w(other), api.OK)
	}
	d.Arm(done)
	want := api.ErrDown
	if done == len(writes) {
		want = api.OK
	}
	what := fmt.Sprintf("P11.2: %s, %d writes", s.name, done)
	answers(t, what, manifest.Put(d, newer), want)
	holds(t, what, d, other.Image()...)
	counted(t, what, d, done)
	if d.On() != (want == api.OK) {
		t.Errorf("%s: power %v", what, d.On())
	}
	return d
}

// restarted turns a disk off, and on again with so many bytes of each tail.
func restarted(d *disk.Disk, keep int) {
	var all []int
	for range d.Names() {
		all = append(all, keep)
	}
	d.Off()
	d.Start(all...)
}

// TestPower: the power goes ahead of each write, and behind the last; each number of bytes of the tails stays.
func TestPower(t *testing.T) {
	for _, s := range states() {
		n := len(writesOf(s, newer))
		for done := range n + 1 {
			for keep := -1; keep <= whole+1; keep++ {
				d := cutShort(t, s, done)
				restarted(d, keep)
				what := fmt.Sprintf("What follows: %s, %d writes, %d bytes kept", s.name, done, keep)
				if done == n {
					tells(t, what, d, newer)
				} else {
					s.stays(t, what, d)
				}
				third := api.Manifest{Boot: 77, Accepted: 5, Current: 5, Log: 3}
				puts(t, what+", again", d, third)
				tells(t, what+", again", d, third)
				holds(t, what+", again", d, append(others(2), file(manifest.File, laid(third)))...)
				restarted(d, keep)
				tells(t, what+", again, restarted", d, third)
			}
		}
	}
}

// TestPowerTwice: a Put behind one that was cut short is cut short, too.
func TestPowerTwice(t *testing.T) {
	third := api.Manifest{Boot: 77}
	for first := range 3 {
		for keep := 0; keep <= whole; keep++ {
			for second := range 5 {
				d := cutShort(t, state{files: []api.File{file(manifest.File, laid(older))}, is: true}, first)
				restarted(d, keep)
				n := 3 + len(d.Names()) - 1
				d.Arm(second)
				e := manifest.Put(d, third)
				restarted(d, whole-keep)
				what := fmt.Sprintf("What follows: %d writes, then %d", first, second)
				if second >= n {
					answers(t, what, e, api.OK)
					tells(t, what, d, third)
				} else {
					answers(t, what, e, api.ErrDown)
					tells(t, what, d, older)
				}
			}
		}
	}
}

// TestPowerExample: example 4.
func TestPowerExample(t *testing.T) {
	d := diskOf(t, 76)
	puts(t, "P11.2: example 4", d, older)
	puts(t, "P11.2: example 4", d, newer)
	counted(t, "P11.2: example 4", d, 6)

	d = diskOf(t, 76)
	puts(t, "P11.2: example 4", d, older)
	d.Arm(2)
	answers(t, "P11.2: example 4, armed with 2", manifest.Put(d, newer), api.ErrDown)
	d.Off()
	d.Start()
	holds(t, "P11.2: example 4, armed with 2", d, file("manifest", laid(older)), file("manifest.new", laid(newer)))
	tells(t, "P11.3: example 4", d, older)
	puts(t, "P11.2: Remove first", d, newer)
	counted(t, "P11.2: Remove first", d, 3+2+4)
	tells(t, "P11.2: Remove first", d, newer)
}
