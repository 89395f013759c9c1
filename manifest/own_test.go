package manifest_test

import (
	"bytes"
	"testing"

	"lagoon/api"
	"lagoon/manifest"
)

// TestHandedInStays: the bytes that Read is handed, and their spare room.
func TestHandedInStays(t *testing.T) {
	all := noBytes()
	all["a manifest"] = laid(older)
	for what, b := range all {
		wide := append(bytes.Clone(b), 1, 2, 3)
		manifest.Read(wide[:len(b):len(wide)])
		if !bytes.Equal(wide[:len(b)], b) || !bytes.Equal(wide[len(b):], []byte{1, 2, 3}) {
			t.Errorf("R5: Read of %s has changed what it was handed", what)
		}
	}
}

// TestSpareRoomIsNotRead: bytes behind the end are none of the text's.
func TestSpareRoomIsNotRead(t *testing.T) {
	b := append(laid(older), laid(newer)...)
	if m, e := manifest.Read(b[:whole]); m != older || e != api.OK {
		t.Errorf("R5: with spare room: %+v, %d", m, e)
	}
	unread(t, "all but a byte, that stands behind its end", b[:whole-1])
}

// TestAnswersAreNew: what Write answers is written over, its spare room too; other answers and disks stay.
func TestAnswersAreNew(t *testing.T) {
	d := diskOf(t, api.MaxRoom)
	puts(t, "P11.2", d, older)
	b, _ := manifest.Write(older)
	other, _ := manifest.Write(older)
	for i := range b[:cap(b)] {
		b[:cap(b)][i] = 0xEE
	}
	if !bytes.Equal(other, laid(older)) {
		t.Error("R5: two answers of Write share memory")
	}
	written(t, older)
	tells(t, "R5: written over", d, older)
}

// TestEmptyIsNil: no bytes at all are the same, nil or not.
func TestEmptyIsNil(t *testing.T) {
	unread(t, "nil", nil)
	unread(t, "no elements", []byte{})
	unread(t, "no elements, with spare room", laid(older)[:0])
}

// TestDisksKnowNothing: a Put changes its own disk alone, and the disk is not kept: what is done to it behind a call is seen by the next one.
func TestDisksKnowNothing(t *testing.T) {
	one, two := diskOf(t, api.MaxRoom), diskOf(t, api.MaxRoom)
	puts(t, "P11.2", one, older)
	holds(t, "R6: another disk", two)
	puts(t, "P11.2", two, newer)
	tells(t, "R6: the first disk", one, older)
	tells(t, "R6: the second disk", two, newer)
	answers(t, "the test's own Remove", one.Remove(manifest.File), api.OK)
	tellsNone(t, "P11.4: the file is gone", one, api.OK)
	answers(t, "the test's own Append", one.Append(manifest.File, laid(newer)), api.OK)
	tells(t, "P11.4: another file", one, newer)
	one.Off()
	tellsNone(t, "P11.4: the power is gone", one, api.ErrDown)
	tells(t, "R6: the second disk", two, newer)
}
