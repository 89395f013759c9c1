package manifest_test

import (
	"fmt"
	"testing"

	"lagoon/api"
	"lagoon/manifest"
)

// TestGet: each manifest that may be is told, whatever else is on the disk.
func TestGet(t *testing.T) {
	for _, m := range may() {
		tells(t, "P11.3", diskOf(t, api.MaxRoom, file(manifest.File, laid(m))), m)
	}
	beside := append(others(3), file(manifest.New, laid(newer)), file(manifest.File, laid(older)))
	tells(t, "P11.3: beside other files", diskOf(t, api.MaxRoom, beside...), older)
	tails := api.File{Name: manifest.File, Bytes: laid(older), Synced: 5}
	tells(t, "P11.3: bytes that are not durable", diskOf(t, api.MaxRoom, tails), older)
}

// TestGetNone: without a file File there is none, whatever New has, and whatever is called nearly so.
func TestGetNone(t *testing.T) {
	tellsNone(t, "P11.3: no files", diskOf(t, 0), api.OK)
	tellsNone(t, "P11.3: other files", diskOf(t, api.MaxRoom, others(api.MaxFiles)...), api.OK)
	for _, name := range []string{manifest.New, "manifest.", "manifest.1", "manifes", "manifests", "manifest.new.new", "a", "snap.1"} {
		tellsNone(t, "P11.3: a file "+name, diskOf(t, api.MaxRoom, file(name, laid(newer))), api.OK)
	}
}

// TestGetOther: bytes that are no manifest's.
func TestGetOther(t *testing.T) {
	for what, b := range noBytes() {
		tellsNone(t, "P11.3: "+what, diskOf(t, api.MaxRoom, file(manifest.File, b)), api.ErrMani)
		tellsNone(t, "P11.3: "+what+", New being whole", diskOf(t, api.MaxRoom, file(manifest.File, b), file(manifest.New, laid(newer))), api.ErrMani)
	}
}

// TestGetOrder: ErrArg of no disk; ErrDown ahead of all that the file has, or that there is none.
func TestGetOrder(t *testing.T) {
	for _, none := range noDisks() {
		tellsNone(t, "R3: of no disk", none, api.ErrArg)
	}
	tellsNone(t, "P11.3: no power, no file", down(t), api.ErrDown)
	tellsNone(t, "P11.3: no power", down(t, file(manifest.File, laid(older))), api.ErrDown)
	tellsNone(t, "P11.3: no power, an empty file", down(t, file(manifest.File, nil)), api.ErrDown)
	tellsNone(t, "P11.3: no power, a torn file", down(t, file(manifest.File, laid(older)[:9])), api.ErrDown)
}

// TestGetIsNoWrite: it changes nothing, and takes no armed power.
func TestGetIsNoWrite(t *testing.T) {
	for i, files := range [][]api.File{
		nil,
		{file(manifest.File, laid(older))},
		{file(manifest.File, laid(older)[:4])},
		{file(manifest.File, laid(older)), file(manifest.New, laid(newer))},
		{{Name: manifest.File, Bytes: laid(older), Synced: 2}, {Name: manifest.New, Bytes: laid(newer)[:5], Synced: 1}},
	} {
		d := diskOf(t, api.MaxRoom, files...)
		d.Arm(0)
		for range 3 {
			manifest.Get(d)
		}
		what := fmt.Sprintf("P11.3: files %d", i)
		holds(t, what, d, files...)
		counted(t, what, d, 0)
		if !d.On() {
			t.Errorf("%s: the power is gone", what)
		}
	}
}
