package manifest_test

import (
	"bytes"
	"fmt"
	"testing"

	"lagoon/api"
	"lagoon/disk"
	"lagoon/manifest"
)

// state: the files that a disk has ahead of a Put, and how it is called in what a test says.
type state struct {
	name  string
	files []api.File
	is    bool // the older manifest is there
	left  bool // a file New is there
}

// states: with File and without, with New and without, New being torn, empty, whole, and not durable.
func states() []state {
	var out []state
	leftovers := map[string]api.File{
		"torn":        file(manifest.New, laid(newer)[:7]),
		"empty":       file(manifest.New, nil),
		"whole":       file(manifest.New, laid(newer)),
		"another":     file(manifest.New, laid(api.Manifest{Boot: 99})),
		"long":        file(manifest.New, bytes.Repeat([]byte{7}, 100)),
		"not durable": {Name: manifest.New, Bytes: laid(newer), Synced: 3},
	}
	for _, is := range []bool{false, true} {
		ahead, name := others(2), "no manifest"
		if is {
			ahead, name = append(ahead, file(manifest.File, laid(older))), "the older one"
		}
		out = append(out, state{name, ahead, is, false})
		for how, f := range leftovers {
			out = append(out, state{name + ", a new one that is " + how, append(ahead[:len(ahead):len(ahead)], f), is, true})
		}
	}
	return out
}

// stays looks that the disk tells what it told ahead of a Put.
func (s state) stays(t *testing.T, what string, d *disk.Disk) {
	t.Helper()
	if s.is {
		tells(t, what, d, older)
	} else {
		tellsNone(t, what, d, api.OK)
	}
}

// TestPut: whatever was there, the manifest is the disk's, with just so many writes, and New is gone.
func TestPut(t *testing.T) {
	for _, s := range states() {
		d := diskOf(t, api.MaxRoom, s.files...)
		puts(t, "P11.2: "+s.name, d, newer)
		n := 3
		if s.left {
			n = 4
		}
		counted(t, "P11.2: "+s.name, d, n)
		holds(t, "P11.2: "+s.name, d, append(others(2), file(manifest.File, laid(newer)))...)
		tells(t, "P11.2: "+s.name, d, newer)
	}
}

// TestPutEdges: every manifest that may be, one behind the other on one disk; those that may not do nothing.
func TestPutEdges(t *testing.T) {
	d := diskOf(t, 2*whole)
	for i, m := range may() {
		puts(t, "P11.2", d, m)
		tells(t, "P11.2", d, m)
		counted(t, "P11.2", d, 3*(i+1))
	}
	for _, s := range states() {
		for _, m := range mayNot() {
			d := diskOf(t, api.MaxRoom, s.files...)
			d.Arm(0)
			answers(t, "P11.2: it may not be", manifest.Put(d, m), api.ErrMani)
			holds(t, "P11.2: it may not be", d, s.files...)
			if !d.On() || d.Writes() != 0 {
				t.Errorf("P11.2: it may not be: %+v: %d writes, power %v", m, d.Writes(), d.On())
			}
		}
	}
}

// TestPutSame: a manifest that the disk has is written all the same.
func TestPutSame(t *testing.T) {
	d := diskOf(t, api.MaxRoom, file(manifest.File, laid(older)))
	puts(t, "P11.2", d, older)
	counted(t, "P11.2: the same again", d, 3)
	holds(t, "P11.2: the same again", d, file(manifest.File, laid(older)))
}

// TestPutOverAnything: what File has is not looked at.
func TestPutOverAnything(t *testing.T) {
	for what, b := range noBytes() {
		d := diskOf(t, api.MaxRoom, file(manifest.File, b))
		puts(t, "P11.2: over "+what, d, newer)
		counted(t, "P11.2: over "+what, d, 3)
		holds(t, "P11.2: over "+what, d, file(manifest.File, laid(newer)))
	}
}

// TestNoRoom: a byte less than New needs is too little, and what a leftover has counts no more when it is gone.
func TestNoRoom(t *testing.T) {
	for _, s := range states() {
		used := 0
		for _, f := range s.files {
			used += len(f.Bytes)
		}
		kept := others(2)
		if s.is {
			kept = append(kept, file(manifest.File, laid(older)))
		}
		free := 0
		for _, f := range kept {
			free += len(f.Bytes)
		}
		for _, room := range []int{used, free + whole - 1, free + whole, free + whole + 1} {
			if room < used {
				continue // so much is on the disk already
			}
			d := diskOf(t, room, s.files...)
			what := fmt.Sprintf("P11.2: %s, room for %d, %d needed", s.name, room, free+whole)
			if room >= free+whole {
				puts(t, what, d, newer)
				tells(t, what, d, newer)
				continue
			}
			answers(t, what, manifest.Put(d, newer), api.ErrFull)
			done := 0
			if s.left {
				done = 1
			}
			counted(t, what, d, done)
			holds(t, what, d, kept...)
			s.stays(t, what, d)
		}
	}
}

// TestTooManyFiles: where New can't be made as there are MaxFiles; a leftover makes room for it.
func TestTooManyFiles(t *testing.T) {
	full := append(others(api.MaxFiles-1), file(manifest.File, laid(older)))
	d := diskOf(t, api.MaxRoom, full...)
	answers(t, "P11.2: as many files as may be", manifest.Put(d, newer), api.ErrName)
	counted(t, "P11.2: as many files as may be", d, 0)
	holds(t, "P11.2: as many files as may be", d, full...)
	tells(t, "P11.2: as many files as may be", d, older)

	left := append(others(api.MaxFiles-2), file(manifest.File, laid(older)), file(manifest.New, nil))
	d = diskOf(t, api.MaxRoom, left...)
	puts(t, "P11.2: as many files as may be, New among them", d, newer)
	counted(t, "P11.2: as many files as may be, New among them", d, 4)
	tells(t, "P11.2: as many files as may be, New among them", d, newer)

	last := others(api.MaxFiles - 1)
	d = diskOf(t, api.MaxRoom, last...)
	puts(t, "P11.2: the last file", d, newer)
	tells(t, "P11.2: the last file", d, newer)
}

// TestPutOrder: which error comes first, of all faults that can come together.
func TestPutOrder(t *testing.T) {
	for faults := range 16 {
		m, want := newer, api.OK
		d := diskOf(t, 2*whole, file(manifest.File, laid(older)))
		if faults&1 != 0 { // no room
			d = diskOf(t, 2*whole-1, file(manifest.File, laid(older)))
			want = api.ErrFull
		}
		before := d.Image()
		if faults&2 != 0 {
			d.Off()
			want = api.ErrDown
		}
		if faults&4 != 0 {
			m.Log, want = -1, api.ErrMani
		}
		if faults&8 != 0 {
			for _, none := range noDisks() {
				answers(t, "R3: Put into no disk", manifest.Put(none, m), api.ErrArg)
			}
			continue
		}
		answers(t, fmt.Sprintf("P11.2: faults %04b", faults), manifest.Put(d, m), want)
		if want != api.OK {
			holds(t, fmt.Sprintf("P11.2: faults %04b", faults), d, before...)
			counted(t, fmt.Sprintf("P11.2: faults %04b", faults), d, 0)
		}
	}
}

// TestPutDown: without power nothing is done, whatever is there.
func TestPutDown(t *testing.T) {
	for _, s := range states() {
		d := down(t, s.files...)
		answers(t, "P11.2: no power", manifest.Put(d, newer), api.ErrDown)
		counted(t, "P11.2: no power", d, 0)
		holds(t, "P11.2: no power", d, s.files...)
	}
}

// TestRoomExample: example 3.
func TestRoomExample(t *testing.T) {
	d := diskOf(t, 38)
	tellsNone(t, "P11.3: a new disk", d, api.OK)
	puts(t, "P11.2: example 3", d, older)
	counted(t, "P11.2: example 3", d, 3)
	holds(t, "P11.2: example 3", d, file("manifest", laid(older)))
	answers(t, "P11.2: no room for both", manifest.Put(d, newer), api.ErrFull)
	tells(t, "P11.2: no room for both", d, older)
	counted(t, "P11.2: no room for both", d, 3)
}
