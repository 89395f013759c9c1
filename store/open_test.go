package store_test

import (
	"fmt"
	"math"
	"slices"
	"testing"

	"lagoon/api"
	"lagoon/disk"
	"lagoon/snap"
	"lagoon/store"
	"lagoon/ztree"
)

// opens looks that an Open of these files does just these writes, in this order, and gives this server: it is armed with each number of them, and started again with each number of the bytes that were not synced; a further Open finds what lost says.
func opens(t *testing.T, what string, files []api.File, want server, lost func(done int) server, writes ...write) {
	t.Helper()
	for done := range len(writes) + 1 {
		for keep := 0; ; keep++ {
			where := fmt.Sprintf("P12.1: %s, %d writes, %d bytes kept", what, done, keep)
			d := diskOf(t, files...)
			d.Arm(done)
			s, e := store.Open(d, want.size)
			holds(t, where, d, replayed(t, files, writes[:done]).Image()...)
			counted(t, where, d, done)
			if done == len(writes) {
				answers(t, where, e, api.OK)
				tells(t, where, s, want)
				holds(t, where, d, want.files()...)
			} else if e != api.ErrDown || s != nil {
				t.Errorf("%s: %d, a store %v", where, e, s != nil)
			}
			most := tail(d)
			restarted(d, keep)
			finds(t, where, d, lost(done))
			if keep > most {
				break
			}
		}
	}
}

// refused looks that an Open answers an error and no store, and has done nothing.
func refused(t *testing.T, what string, d *disk.Disk, size int, want api.Errno) {
	t.Helper()
	before, n := d.Image(), d.Writes()
	if s, e := store.Open(d, size); e != want || s != nil {
		t.Errorf("P12.1: %s: %d, a store %v, not %d", what, e, s != nil, want)
	}
	if !slices.EqualFunc(d.Image(), before, sameFile) || d.Writes() != n {
		t.Errorf("P12.1: %s: %d writes were done", what, d.Writes()-n)
	}
}

// TestOpenNew: without a manifest all files go, and a new server begins.
func TestOpenNew(t *testing.T) {
	for what, names := range map[string][]string{
		"an empty disk":         {},
		"one file":              {"x"},
		"files without meaning": {"a", "log.1.1", "log.1.2", "log.2.1", "manifest.", "manifest.new", "snap.1", "snap.2", "z"},
		"files behind":          {"z.9", "zz"},
	} {
		var files []api.File
		for _, name := range names {
			files = append(files, file(name, manifestBytes(api.Manifest{Boot: 9, Log: 1})))
		}
		for _, size := range []int{1, 2, api.MaxSegment} {
			want := server{api.Manifest{Boot: 1, Log: 1}, size, ztree.New(), [][]api.Txn{nil}}
			writes := slices.Concat(removes(names...), logs(1, want.segments), puts(want.Manifest))
			lost := func(done int) server {
				if done == len(writes) {
					return want
				}
				none := want // that Open is of a new server, too
				none.Boot = 0
				return none
			}
			opens(t, what, files, want, lost, writes...)
		}
	}
}

// strangers are names of files, some of them nearly those of a server's.
func strangers() []string {
	return []string{
		"a", "log.1", "log.1.1", "log.1.2", "log.1.3", "log.3.01", "log.3.1.", "log.3.1000", "log.3.1.1", "log.9.0", "log.a.1", "log.ab.g", "manifest.new", "manifests",
		"snap", "snap.", "snap.0", "snap.03", "snap.1", "snap.3", "snap.3.1", "snap.33", "snap.ab", "z",
	}
}

// TestOpenFinds: each server's files, with others beside them and without; the first are read alone, the others are removed.
func TestOpenFinds(t *testing.T) {
	for name, s := range servers() {
		own := namesOf(s.files())
		for n := range 3 {
			own = append(own, fmt.Sprintf("log.%x.%d", s.Log, n+1)) // one that is there by chance would be the log's
		}
		others := slices.DeleteFunc(strangers(), func(name string) bool { return slices.Contains(own, name) })
		for _, beside := range [][]string{nil, {"manifest.new"}, others} {
			files := s.files()
			for _, other := range beside {
				files = append(files, file(other, snap.Write(treeOf("5.5"))[:40]))
			}
			writes := append(removes(beside...), puts(s.booted().Manifest)...)
			lost := func(done int) server {
				if done == len(writes) {
					return s.booted()
				}
				return s
			}
			opens(t, fmt.Sprintf("%s, %d files beside", name, len(beside)), files, s.booted(), lost, writes...)
		}
	}
}

// TestOpenTorn: what is torn at the log's end is cut off first, then the others are removed.
func TestOpenTorn(t *testing.T) {
	s := served(api.Manifest{Boot: 3, Accepted: 2, Current: 1, Snap: 4, Log: 5}, "1.1", "1.2 1.3 1.4 1.5")
	whole := frames(txns("1.4 1.5"))
	for _, n := range []int{1, 8, len(whole) / 2, len(whole)/2 + 1, len(whole) - 1} {
		found := s
		found.segments = [][]api.Txn{txns("1.2 1.3"), txns("1.4 1.5")[:n/(len(whole)/2)]}
		files := s.files()
		i := slices.IndexFunc(files, func(f api.File) bool { return f.Name == "log.5.2" })
		files[i] = file("log.5.2", whole[:n])
		files = append(files, file("x", nil))
		var writes []write
		if kept := len(frames(found.segments[1])); kept != n {
			writes = append(writes, cuts("log.5.2", kept))
		}
		writes = slices.Concat(writes, removes("x"), puts(s.booted().Manifest))
		lost := func(done int) server {
			if done == len(writes) {
				return found.booted()
			}
			return found
		}
		opens(t, fmt.Sprintf("torn behind %d bytes", n), files, found.booted(), lost, writes...)
	}
}

// spoilt are the files of a server, one of them with other bytes; without, if they are nil.
func spoilt(s server, name string, b []byte) []api.File {
	out := slices.DeleteFunc(s.files(), func(f api.File) bool { return f.Name == name })
	if b == nil {
		return out
	}
	return append(out, file(name, b))
}

// turned are bytes of which one is another one.
func turned(b []byte, at int) []byte {
	b = slices.Clone(b)
	b[at] ^= 1
	return b
}

// noServers are files that are no server's, with what is wrong of them.
func noServers() map[string][]api.File {
	s := served(api.Manifest{Boot: 3, Accepted: 2, Current: 1, Snap: 4, Log: 5}, "1.1", "1.2 1.3 1.4 1.5 1.6")
	image, m := snap.Write(s.tree), manifestBytes(s.Manifest)
	out := map[string][]api.File{
		"a manifest without bytes":    spoilt(s, "manifest", []byte{}),
		"a manifest that is torn":     spoilt(s, "manifest", m[:37]),
		"a manifest with a byte more": spoilt(s, "manifest", append(slices.Clone(m), 0)),
		"a manifest that is turned":   spoilt(s, "manifest", turned(m, 12)),
		"a manifest that may not be":  spoilt(s, "manifest", manifestBytes(api.Manifest{Accepted: 1, Current: 2, Log: 5})),
		"log 0":                       spoilt(s, "manifest", manifestBytes(api.Manifest{Snap: 4})),
		"log 0 and no snapshot":       spoilt(s, "manifest", manifestBytes(api.Manifest{})),
		"no snapshot's file":          spoilt(s, "snap.4", nil),
		"a snapshot without bytes":    spoilt(s, "snap.4", []byte{}),
		"a snapshot that is torn":     spoilt(s, "snap.4", image[:len(image)-1]),
		"a snapshot that is turned":   spoilt(s, "snap.4", turned(image, 9)),
		"a snapshot with a byte more": spoilt(s, "snap.4", append(slices.Clone(image), 0)),
		"no first segment":            spoilt(s, "log.5.1", nil),
		"no second segment":           spoilt(s, "log.5.2", nil),
		"a first segment that's torn": spoilt(s, "log.5.1", frames(txns("1.2 1.3"))[:80]),
		"a second one without bytes":  spoilt(s, "log.5.2", []byte{}),
		"a log at the snapshot":       spoilt(s, "snap.4", snap.Write(treeOf("1.1 1.2"))),
		"a log ahead of the snapshot": spoilt(s, "snap.4", snap.Write(treeOf("7.1"))),
		"a log that does not rise":    spoilt(s, "log.5.3", frames(txns("1.5"))),
		"a log of no transactions":    spoilt(s, "log.5.3", framed([]byte("no transaction"))),
		"a log with the zxid zero":    spoilt(s, "log.5.3", frames(txns("0.0"))),
		"another log's files":         spoilt(s, "manifest", manifestBytes(api.Manifest{Snap: 4, Log: 6})),
	}
	return out
}

// TestOpenState: files that are no server's are left as they are.
func TestOpenState(t *testing.T) {
	for what, files := range noServers() {
		for _, size := range []int{1, 2, api.MaxSegment} {
			refused(t, what, diskOf(t, files...), size, api.ErrState)
		}
		beside := append(files, file("manifest.new", nil), file("a", nil))
		refused(t, what+", with others", diskOf(t, beside...), 2, api.ErrState)
		armed := diskOf(t, files...)
		armed.Arm(0)
		refused(t, what+", armed", armed, 2, api.ErrState)
		if !armed.On() {
			t.Errorf("P12.1: %s: it has written", what)
		}
	}
}

// TestOpenSpent: a start that can't be counted is none; what the snapshot has wrong comes first, the log is not looked at.
func TestOpenSpent(t *testing.T) {
	s := served(api.Manifest{Boot: math.MaxUint32 - 1, Snap: 4, Log: 5}, "1.1", "1.2 1.3 1.4")
	d, x := started(t, s)
	tells(t, "P12.1: the last start", x, s.booted())
	refused(t, "behind the last start", d, 2, api.ErrSpent)
	s = s.booted()
	for name, b := range map[string][]byte{"log.5.1": nil, "log.5.2": frames(txns("1.4"))[:9], "log.5.3": {}, "x": {}} {
		refused(t, "no start, and "+name, diskOf(t, spoilt(s, name, b)...), 2, api.ErrSpent)
	}
	refused(t, "no start, no snapshot", diskOf(t, spoilt(s, "snap.4", nil)...), 2, api.ErrState)
	refused(t, "no start, a snapshot that is none", diskOf(t, spoilt(s, "snap.4", []byte{1})...), 2, api.ErrState)
	m := s.Manifest
	m.Log = 0
	refused(t, "no start, log 0", diskOf(t, spoilt(s, "manifest", manifestBytes(m))...), 2, api.ErrState)
}

// TestOpenSizes: what size may be, and that it comes ahead of all that a disk has wrong.
func TestOpenSizes(t *testing.T) {
	s := served(api.Manifest{Boot: 1, Log: 1}, "", "1.1 1.2 1.3")
	for _, size := range []int{0, -1, api.MaxSegment + 1, math.MinInt, math.MaxInt} {
		off := diskOf(t, s.files()...)
		off.Off()
		for what, d := range map[string]*disk.Disk{"new": diskOf(t), "a server": diskOf(t, s.files()...), "no power": off, "no server": diskOf(t, file("manifest", nil))} {
			refused(t, fmt.Sprintf("size %d, %s", size, what), d, size, api.ErrArg)
		}
	}
	for size := 1; size <= api.MaxSegment; size++ {
		d := diskOf(t)
		x := opened(t, d, size)
		for n := range uint32(size) + 1 {
			answers(t, "P12.3", x.Append(creates(api.Zxid{Epoch: 1, N: n + 1})), api.OK)
		}
		if names := d.Names(); !slices.Equal(names, []string{"log.1.1", "log.1.2", "manifest"}) {
			t.Errorf("P12.1: size %d: behind one transaction more: %v", size, names)
		}
	}
}

// TestOpenOtherSize: a log that was written with another size stays as it is, and goes on with this one.
func TestOpenOtherSize(t *testing.T) {
	was := served(api.Manifest{Boot: 1, Log: 1}, "", "1.1 1.2 1.3")
	for size, segments := range map[int][][]api.Txn{
		1: {txns("1.1 1.2"), txns("1.3"), txns("1.4"), txns("1.5")},
		2: {txns("1.1 1.2"), txns("1.3 1.4"), txns("1.5")},
		3: {txns("1.1 1.2"), txns("1.3 1.4 1.5")},
	} {
		want := was.booted()
		want.size = size
		d := diskOf(t, was.files()...)
		s := opened(t, d, size)
		tells(t, "P12.1: another size", s, want)
		holds(t, "P12.1: another size", d, want.files()...)
		want.segments = segments
		for _, x := range txns("1.4 1.5") {
			answers(t, "P12.3: another size", s.Append(x), api.OK)
		}
		agrees(t, "P12.3: another size", d, s, want)
	}
}

// TestOpenOrder: which error comes first, of all faults that can come together.
func TestOpenOrder(t *testing.T) {
	for faults := range 16 {
		s, want, size := served(api.Manifest{Boot: 5, Log: 1}, "", "1.1"), api.OK, 2
		files := s.files()
		if faults&1 != 0 {
			files, want = s.files()[1:], api.ErrState // no log
		}
		if faults&2 != 0 {
			m := s.Manifest
			m.Boot, want = math.MaxUint32, api.ErrSpent
			files = append(files[:len(files)-1:len(files)-1], file("manifest", manifestBytes(m)))
		}
		d := diskOf(t, files...)
		if faults&4 != 0 {
			d.Off()
			want = api.ErrDown
		}
		if faults&8 != 0 {
			size, want = 0, api.ErrArg
		}
		if want == api.OK {
			opened(t, d, size)
			continue
		}
		refused(t, fmt.Sprintf("faults %04b", faults), d, size, want)
	}
	for _, none := range []*disk.Disk{nil, {}, new(disk.Disk)} {
		for _, size := range []int{-1, 0, 1, 64, 65} {
			refused(t, "no disk", none, size, api.ErrArg)
		}
	}
}

// TestOpenFull: a write that is refused ends it, and what was written ahead of it stays.
func TestOpenFull(t *testing.T) {
	for room := range 38 {
		d := roomOf(t, room)
		s, e := store.Open(d, 2)
		if e != api.ErrFull || s != nil {
			t.Errorf("P12.1: a new server, room %d: %d, a store %v", room, e, s != nil)
		}
		holds(t, "P12.1: a new server, no room", d, file("log.1.1", nil))
		counted(t, "P12.1: a new server, no room", d, 2)
	}
	tells(t, "P12.1: just room for a new server", opened(t, roomOf(t, 38), 2), served(api.Manifest{Boot: 1, Log: 1}, "", ""))
	s := served(api.Manifest{Boot: 1, Snap: 2, Log: 2}, "1.1", "1.2 1.3 1.4")
	used := diskOf(t, s.files()...).Used()
	files := append(s.files(), file("x", nil), file("y", nil))
	for left := range 38 {
		d := roomOf(t, used+left, files...)
		x, e := store.Open(d, 2)
		if e != api.ErrFull || x != nil {
			t.Errorf("P12.1: room for %d more: %d, a store %v", left, e, x != nil)
		}
		holds(t, "P12.1: no room", d, s.files()...)
		counted(t, "P12.1: no room", d, 2)
		finds(t, "P12.1: no room", d, s)
	}
	tells(t, "P12.1: just room", opened(t, roomOf(t, used+38, files...), 2), s.booted())
	wide := append(s.files(), file("x", make([]byte, 38)))
	tells(t, "P12.1: room behind what is cleared", opened(t, roomOf(t, used+38, wide...), 2), s.booted())
}

// TestOpenMostFiles: as many files as a disk has, all of them the server's, leave none for a new manifest.
func TestOpenMostFiles(t *testing.T) {
	for n, want := range map[int]api.Errno{api.MaxFiles - 2: api.OK, api.MaxFiles - 1: api.ErrName} {
		var l []api.Txn
		for i := range uint32(n) {
			l = append(l, creates(api.Zxid{Epoch: 1, N: i + 1}))
		}
		s := server{api.Manifest{Boot: 1, Log: 1}, 1, ztree.New(), parts(1, l)}
		d := diskOf(t, s.files()...)
		x, e := store.Open(d, 1)
		if e != want || (x != nil) != (want == api.OK) {
			t.Errorf("P12.1: %d segments: %d, a store %v", n, e, x != nil)
		}
		if want != api.OK {
			holds(t, "P12.1: as many files as there may be", d, s.files()...)
		}
	}
}

// TestOpenExample: example 1.
func TestOpenExample(t *testing.T) {
	d := diskOf(t)
	s := opened(t, d, 2)
	counted(t, "example 1", d, 5)
	holds(t, "example 1", d, file("log.1.1", nil), file("manifest", manifestBytes(api.Manifest{Boot: 1, Log: 1})))
	if got := s.Durable(); got != (api.Durable{Boot: 1}) {
		t.Errorf("example 1: %v", got)
	}
	tells(t, "example 1", s, served(api.Manifest{Boot: 1, Log: 1}, "", ""))
}
