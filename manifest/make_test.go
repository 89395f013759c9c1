package manifest_test

import (
	"bytes"
	"encoding/binary"
	"fmt"
	"hash/adler32"
	"math"
	"slices"
	"strings"
	"testing"

	"lagoon/api"
	"lagoon/disk"
	"lagoon/manifest"
)

// whole: how many bytes a manifest has.
const whole = 38

// The manifests that most tests tell from one another: each number of them is another one.
var (
	older = api.Manifest{Boot: 1, Accepted: 3, Current: 2, Snap: 4, Log: 5}
	newer = api.Manifest{Boot: 6, Accepted: 8, Current: 7, Snap: 9, Log: 10}
)

// bodyOf is a manifest's body by the document's words, without package pack, also of one that may not be.
func bodyOf(m api.Manifest) []byte {
	order := binary.BigEndian
	b := order.AppendUint32([]byte{1}, m.Boot)
	b = order.AppendUint32(order.AppendUint32(b, m.Accepted), m.Current)
	return order.AppendUint64(order.AppendUint64(b, uint64(m.Snap)), uint64(m.Log))
}

// framed is the frame of a body by the document's words, the sum by Go's own library.
func framed(body []byte) []byte {
	b := binary.BigEndian.AppendUint32(nil, uint32(len(body)))
	b = binary.BigEndian.AppendUint32(b, adler32.Checksum(body))
	return append(append(b, body...), 0x42)
}

func laid(m api.Manifest) []byte { return framed(bodyOf(m)) }

// may are manifests that may be, at all edges.
func may() []api.Manifest {
	var out []api.Manifest
	for _, boot := range []uint32{0, 1, 1 << 31, math.MaxUint32} {
		for _, epochs := range [][2]uint32{{0, 0}, {1, 0}, {1, 1}, {2, 1}, {api.LastEpoch, 0}, {api.LastEpoch, api.LastEpoch - 1}, {api.LastEpoch, api.LastEpoch}} {
			for _, files := range [][2]int64{{0, 0}, {0, 1}, {1, 0}, {1 << 32, 0x0102030405060708}, {math.MaxInt64, 0}, {0, math.MaxInt64}, {math.MaxInt64, math.MaxInt64}} {
				out = append(out, api.Manifest{Boot: boot, Accepted: epochs[0], Current: epochs[1], Snap: files[0], Log: files[1]})
			}
		}
	}
	return append(out, older, newer)
}

// mayNot are manifests that may not be: each for one cause alone, and for several.
func mayNot() []api.Manifest {
	return []api.Manifest{
		{Accepted: 0, Current: 1},
		{Accepted: 1, Current: 2},
		{Accepted: 7, Current: math.MaxUint32},
		{Accepted: api.LastEpoch - 1, Current: api.LastEpoch},
		{Accepted: api.LastEpoch, Current: api.LastEpoch + 1},
		{Accepted: api.LastEpoch + 1},
		{Accepted: api.LastEpoch + 1, Current: api.LastEpoch + 1},
		{Accepted: math.MaxUint32},
		{Accepted: math.MaxUint32, Current: math.MaxUint32},
		{Snap: -1},
		{Snap: math.MinInt64},
		{Log: -1},
		{Log: math.MinInt64},
		{Snap: math.MaxInt64, Log: -1},
		{Snap: -1, Log: math.MaxInt64},
		{Snap: -1, Log: -1},
		{Boot: 1, Accepted: api.LastEpoch + 1, Current: math.MaxUint32, Snap: -1, Log: -1},
	}
}

// noBytes are bytes that are no manifest's, with what is wrong of each.
func noBytes() map[string][]byte {
	out := map[string][]byte{
		"nothing":                     nil,
		"no bytes":                    {},
		"zeros":                       make([]byte, whole),
		"a body without its frame":    bodyOf(older),
		"two of them":                 append(laid(older), laid(newer)...),
		"a whole one behind a byte":   append([]byte{0}, laid(older)...),
		"a whole one, and a byte":     append(laid(older), 0),
		"a whole one, and its end":    append(laid(older), 0x42),
		"a body of just a first byte": framed([]byte{1}),
		"a body that is too long":     framed(append(bodyOf(older), 0)),
		"a body with a body behind":   framed(append(bodyOf(older), bodyOf(newer)...)),
		"the frame of a frame":        framed(laid(older)),
	}
	for n := range 29 {
		out[fmt.Sprintf("a body of %d bytes", n)] = framed(bodyOf(older)[:n])
	}
	for n := range whole {
		out[fmt.Sprintf("the first %d bytes", n)] = laid(older)[:n]
	}
	for n := 1; n < whole; n++ {
		out[fmt.Sprintf("all but the first %d bytes", n)] = laid(older)[n:]
	}
	for first := range 256 {
		if first != 1 {
			out[fmt.Sprintf("a body that begins with %d", first)] = framed(append([]byte{byte(first)}, bodyOf(older)[1:]...))
		}
	}
	for i, m := range mayNot() {
		out[fmt.Sprintf("wrong numbers %d", i)] = laid(m)
	}
	return out
}

// file is one whose bytes are all durable.
func file(name string, b []byte) api.File {
	return api.File{Name: name, Bytes: b, Synced: len(b)}
}

// diskOf is a disk of that room with these files.
func diskOf(t *testing.T, room int, files ...api.File) *disk.Disk {
	t.Helper()
	d, e := disk.From(room, files)
	if e != api.OK {
		t.Fatalf("the test's own disk: %d", e)
	}
	return d
}

// down is a disk with these files, whose power is gone.
func down(t *testing.T, files ...api.File) *disk.Disk {
	t.Helper()
	d := diskOf(t, api.MaxRoom, files...)
	d.Off()
	return d
}

// others are so many files that have nothing to do with a manifest.
func others(n int) []api.File {
	var out []api.File
	for i := range n {
		out = append(out, file(fmt.Sprintf("log.%x.1", i+1), nil))
	}
	return out
}

// holds looks that a disk has just these files.
func holds(t *testing.T, what string, d *disk.Disk, want ...api.File) {
	t.Helper()
	want = slices.SortedFunc(slices.Values(want), func(a, b api.File) int { return strings.Compare(a.Name, b.Name) })
	same := func(x, y api.File) bool {
		return x.Name == y.Name && bytes.Equal(x.Bytes, y.Bytes) && x.Synced == y.Synced
	}
	if got := d.Image(); !slices.EqualFunc(got, want, same) {
		t.Errorf("%s: files\n%v, not\n%v", what, got, want)
	}
}

// answers looks at the error of one call.
func answers(t *testing.T, what string, got, want api.Errno) {
	t.Helper()
	if got != want {
		t.Errorf("%s: %d, not %d", what, got, want)
	}
}

// counted looks how many writes were done.
func counted(t *testing.T, what string, d *disk.Disk, want int) {
	t.Helper()
	if d.Writes() != want {
		t.Errorf("%s: %d writes, not %d", what, d.Writes(), want)
	}
}

// puts looks that a manifest can be put.
func puts(t *testing.T, what string, d *disk.Disk, m api.Manifest) {
	t.Helper()
	answers(t, what+": Put", manifest.Put(d, m), api.OK)
}

// tells looks that Get tells this manifest.
func tells(t *testing.T, what string, d *disk.Disk, want api.Manifest) {
	t.Helper()
	if m, is, e := manifest.Get(d); m != want || !is || e != api.OK {
		t.Errorf("%s: Get %+v %v %d, not %+v", what, m, is, e, want)
	}
}

// tellsNone looks that Get tells no manifest, with this error.
func tellsNone(t *testing.T, what string, d *disk.Disk, want api.Errno) {
	t.Helper()
	if m, is, e := manifest.Get(d); m != (api.Manifest{}) || is || e != want {
		t.Errorf("%s: Get %+v %v %d, not %d", what, m, is, e, want)
	}
}

// noDisks are disks that no call of their package made.
func noDisks() []*disk.Disk { return []*disk.Disk{nil, {}, new(disk.Disk)} }
