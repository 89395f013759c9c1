package manifest_test

import (
	"bytes"
	"testing"

	"lagoon/api"
	"lagoon/manifest"
)

// written looks that Write answers just the bytes of the document's words.
func written(t *testing.T, m api.Manifest) {
	t.Helper()
	if b, e := manifest.Write(m); e != api.OK || len(b) != whole || !bytes.Equal(b, laid(m)) {
		t.Errorf("P11.1: Write(%+v): % X, %d, not % X", m, b, e, laid(m))
	}
}

// unwritten looks that Write refuses a manifest.
func unwritten(t *testing.T, m api.Manifest) {
	t.Helper()
	if b, e := manifest.Write(m); e != api.ErrMani || len(b) != 0 {
		t.Errorf("P11.1: Write(%+v): % X, %d", m, b, e)
	}
}

// unread looks that Read refuses these bytes.
func unread(t *testing.T, what string, b []byte) {
	t.Helper()
	if m, e := manifest.Read(b); e != api.ErrMani || m != (api.Manifest{}) {
		t.Errorf("P11.1: Read of %s, % X: %+v, %d", what, b, m, e)
	}
}

// TestNames: the files are called as the document says.
func TestNames(t *testing.T) {
	if manifest.File != "manifest" || manifest.New != "manifest.new" {
		t.Errorf("Words: the names are %q and %q", manifest.File, manifest.New)
	}
}

// TestWritten: manifests that may be, and those that may not.
func TestWritten(t *testing.T) {
	for _, m := range may() {
		written(t, m)
	}
	for _, m := range mayNot() {
		unwritten(t, m)
	}
}

// TestRead: what was written is read again; of other bytes nothing is told.
func TestRead(t *testing.T) {
	for _, m := range may() {
		if got, e := manifest.Read(laid(m)); got != m || e != api.OK {
			t.Errorf("P11.1: Read of the bytes of %+v: %+v, %d", m, got, e)
		}
	}
	for what, b := range noBytes() {
		unread(t, what, b)
	}
}

// TestTurned: every byte of the 38, turned into every other one.
func TestTurned(t *testing.T) {
	for _, m := range []api.Manifest{{}, older, newer, {Boot: 1<<32 - 1, Accepted: api.LastEpoch, Current: api.LastEpoch, Snap: 1<<63 - 1, Log: 1<<63 - 1}} {
		for at := range whole {
			for turn := 1; turn < 256; turn++ {
				b := laid(m)
				b[at] ^= byte(turn)
				unread(t, "one byte turned", b)
			}
		}
	}
}

// TestBytesExamples: examples 1 and 2.
func TestBytesExamples(t *testing.T) {
	b, e := manifest.Write(api.Manifest{Boot: 1, Accepted: 2, Current: 1, Snap: 0, Log: 5})
	ahead := []byte{0, 0, 0, 0x1D}
	body := []byte{1, 0, 0, 0, 1, 0, 0, 0, 2, 0, 0, 0, 1, 0, 0, 0, 0, 0, 0, 0, 0, 0, 0, 0, 0, 0, 0, 0, 5}
	if e != api.OK || len(b) != 38 || !bytes.Equal(b[:4], ahead) || !bytes.Equal(b[8:37], body) || b[37] != 0x42 {
		t.Errorf("P11.1: example 1: % X, %d", b, e)
	}
	unwritten(t, api.Manifest{Accepted: 1, Current: 2})
	unwritten(t, api.Manifest{Accepted: 1 << 31})
	unwritten(t, api.Manifest{Snap: -1})
	unread(t, "nothing", nil)
}
