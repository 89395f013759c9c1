package store_test

import (
	"bytes"
	"encoding/binary"
	"fmt"
	"hash/adler32"
	"math"
	"slices"
	"strconv"
	"strings"
	"testing"

	"lagoon/api"
	"lagoon/disk"
	"lagoon/snap"
	"lagoon/store"
	"lagoon/txn"
	"lagoon/ztree"
)

// z is the zxid that a text like 1.2 tells: (1, 2).
func z(text string) api.Zxid {
	epoch, n, _ := strings.Cut(text, ".")
	e, _ := strconv.ParseUint(epoch, 10, 32)
	c, _ := strconv.ParseUint(n, 10, 32)
	return api.Zxid{Epoch: uint32(e), N: uint32(c)}
}

// creates is a transaction that makes a node.
func creates(at api.Zxid) api.Txn {
	return api.Txn{Zxid: at, From: api.Origin{Server: 1, Boot: 2, Number: 3}, Req: api.Request{Kind: api.Create, Path: "/n-", Data: []byte{7}, Sequence: true}}
}

// txns are Creates with the zxids that a text like "1.1 1.2" tells.
func txns(text string) []api.Txn {
	var out []api.Txn
	for _, one := range strings.Fields(text) {
		out = append(out, creates(z(one)))
	}
	return out
}

// treeOf is what these Creates make of the empty tree.
func treeOf(text string) *ztree.Tree {
	t := ztree.New()
	for _, x := range txns(text) {
		t.Apply(x)
	}
	return t
}

// framed is the frame of a body by the document's words, the sum by Go's own library.
func framed(body []byte) []byte {
	b := binary.BigEndian.AppendUint32(nil, uint32(len(body)))
	b = binary.BigEndian.AppendUint32(b, adler32.Checksum(body))
	return append(append(b, body...), 0x42)
}

// frames are the bytes of a segment.
func frames(l []api.Txn) []byte {
	var out []byte
	for _, x := range l {
		body, e := txn.Write(x)
		if e != api.OK {
			panic("the test's own transaction")
		}
		out = append(out, framed(body)...)
	}
	return out
}

// manifestBytes are a manifest's by the document's words, also of one that may not be.
func manifestBytes(m api.Manifest) []byte {
	order := binary.BigEndian
	b := order.AppendUint32([]byte{1}, m.Boot)
	b = order.AppendUint32(order.AppendUint32(b, m.Accepted), m.Current)
	return framed(order.AppendUint64(order.AppendUint64(b, uint64(m.Snap)), uint64(m.Log)))
}

// file is one whose bytes are all durable.
func file(name string, b []byte) api.File {
	return api.File{Name: name, Bytes: b, Synced: len(b)}
}

// server is what a store should keep, by the chapter's words.
type server struct {
	api.Manifest
	size     int
	tree     *ztree.Tree
	segments [][]api.Txn
}

// parts are transactions in segments, as a log is created.
func parts(size int, l []api.Txn) [][]api.Txn {
	out := slices.Collect(slices.Chunk(l, size))
	if len(out) == 0 {
		return [][]api.Txn{nil}
	}
	return out
}

// served is a server of this manifest, with segments of two transactions; snapshot and log are texts of zxids.
func served(m api.Manifest, snapshot, log string) server {
	return server{m, 2, treeOf(snapshot), parts(2, txns(log))}
}

func (s server) log() []api.Txn { return slices.Concat(s.segments...) }

func (s server) last() api.Zxid {
	if l := s.log(); len(l) > 0 {
		return l[len(l)-1].Zxid
	}
	return s.tree.Last()
}

func (s server) durable() api.Durable {
	return api.Durable{Boot: s.Boot, Accepted: s.Accepted, Current: s.Current, Snap: s.tree.Last(), Last: s.last()}
}

// booted is the same, started once more.
func (s server) booted() server {
	s.Boot++
	return s
}

// stand are the zxids that stand in its history.
func (s server) stand() []api.Zxid {
	out := []api.Zxid{s.tree.Last()}
	for _, x := range s.log() {
		out = append(out, x.Zxid)
	}
	return out
}

// files are those that its manifest names, rising by name.
func (s server) files() []api.File {
	out := []api.File{file("manifest", manifestBytes(s.Manifest))}
	if s.Snap != 0 {
		out = append(out, file(fmt.Sprintf("snap.%x", s.Snap), snap.Write(s.tree)))
	}
	for i, l := range s.segments {
		out = append(out, file(fmt.Sprintf("log.%x.%x", s.Log, i+1), frames(l)))
	}
	return sorted(out)
}

func sorted(l []api.File) []api.File {
	return slices.SortedFunc(slices.Values(l), func(a, b api.File) int { return strings.Compare(a.Name, b.Name) })
}

func namesOf(l []api.File) []string {
	var out []string
	for _, f := range l {
		out = append(out, f.Name)
	}
	return out
}

// The servers that most tests begin with: all edges of their numbers, logs with one segment and with several, snapshots and none.
func servers() map[string]server {
	return map[string]server{
		"a new server":         served(api.Manifest{Boot: 1, Log: 1}, "", ""),
		"a log":                served(api.Manifest{Boot: 5, Accepted: 4, Current: 3, Log: 1}, "", "1.1 1.2 1.3"),
		"a snapshot":           served(api.Manifest{Boot: 6, Accepted: 4, Current: 4, Snap: 3, Log: 3}, "1.1 1.2", "2.1"),
		"a snapshot alone":     served(api.Manifest{Boot: 7, Accepted: 9, Current: 2, Snap: 0x1f, Log: 0xab}, "1.1 1.2", ""),
		"an elder snapshot":    served(api.Manifest{Boot: 8, Accepted: 2, Current: 1, Snap: 2, Log: 9}, "1.1", "1.2 1.4 2.1 2.7 3.1"),
		"a newer snapshot":     served(api.Manifest{Boot: 9, Accepted: 2, Current: 0, Snap: 0xff, Log: 9}, "1.1", "1.2 1.3"),
		"an empty snapshot":    served(api.Manifest{Boot: 2, Accepted: 2, Current: 1, Snap: 1, Log: 1}, "", "1.1 1.2"),
		"the last numbers":     served(api.Manifest{Boot: math.MaxUint32 - 9, Accepted: api.LastEpoch, Current: api.LastEpoch - 1, Snap: math.MaxInt64 - 9, Log: math.MaxInt64 - 9}, "1.1", "2147483647.5"),
		"the last epoch but 1": served(api.Manifest{Boot: 3, Accepted: api.LastEpoch - 1, Log: 4}, "", "1.1"),
	}
}

// diskOf is a disk of much room with these files.
func diskOf(t *testing.T, files ...api.File) *disk.Disk {
	t.Helper()
	return roomOf(t, api.MaxRoom, files...)
}

func roomOf(t *testing.T, room int, files ...api.File) *disk.Disk {
	t.Helper()
	d, e := disk.From(room, files)
	if e != api.OK {
		t.Fatalf("the test's own disk: %d", e)
	}
	return d
}

// opened is a store that must be found or begun.
func opened(t *testing.T, d *disk.Disk, size int) *store.Store {
	t.Helper()
	s, e := store.Open(d, size)
	if e != api.OK || s == nil {
		t.Fatalf("P12.1: Open with size %d: %d, of %v", size, e, d.Names())
	}
	return s
}

// started is the store of a server, on a disk of its own.
func started(t *testing.T, s server) (*disk.Disk, *store.Store) {
	t.Helper()
	d := diskOf(t, s.files()...)
	return d, opened(t, d, s.size)
}

// tells looks that a store tells what a server has.
func tells(t *testing.T, what string, s *store.Store, want server) {
	t.Helper()
	if got := s.Durable(); got != want.durable() {
		t.Errorf("%s: P12.7: Durable %v, not %v", what, got, want.durable())
	}
	if got := s.Log(); !slices.EqualFunc(got, want.log(), txn.Same) {
		t.Errorf("%s: P12.7: Log %v, not %v", what, zxids(got), zxids(want.log()))
	}
	if got := s.Tree(); !ztree.Same(got, want.tree) {
		t.Errorf("%s: P12.7: a tree of %v, not of %v", what, got.Last(), want.tree.Last())
	}
}

func zxids(l []api.Txn) []api.Zxid {
	var out []api.Zxid
	for _, x := range l {
		out = append(out, x.Zxid)
	}
	return out
}

// finds looks that what a disk has is, to a later Open, this server started once more, and that just its files are there then.
func finds(t *testing.T, what string, d *disk.Disk, want server) {
	t.Helper()
	d = diskOf(t, d.Image()...) // a full one has no room for an Open
	s := opened(t, d, want.size)
	tells(t, what+", opened", s, want.booted())
	holds(t, what+", opened", d, want.booted().files()...)
}

func sameFile(x, y api.File) bool {
	return x.Name == y.Name && bytes.Equal(x.Bytes, y.Bytes) && x.Synced == y.Synced
}

// holds looks that a disk has just these files.
func holds(t *testing.T, what string, d *disk.Disk, want ...api.File) {
	t.Helper()
	if got := d.Image(); !slices.EqualFunc(got, sorted(want), sameFile) {
		t.Errorf("%s: files %v, not %v", what, sizes(got), sizes(sorted(want)))
	}
}

// sizes tells of files what fits into a line.
func sizes(l []api.File) []string {
	var out []string
	for _, f := range l {
		out = append(out, fmt.Sprintf("%s %d %d", f.Name, len(f.Bytes), f.Synced))
	}
	return out
}

// answers looks at the error of one call.
func answers(t *testing.T, what string, got, want api.Errno) {
	t.Helper()
	if got != want {
		t.Errorf("%s: %d, not %d", what, got, want)
	}
}

// counted looks how many writes were done.
func counted(t *testing.T, what string, d *disk.Disk, want int) {
	t.Helper()
	if d.Writes() != want {
		t.Errorf("%s: %d writes, not %d", what, d.Writes(), want)
	}
}

// restarted takes a disk's power, and gives it back with so many bytes of each tail.
func restarted(d *disk.Disk, keep int) {
	d.Off()
	d.Start(slices.Repeat([]int{keep}, api.MaxFiles)...)
}

// wrong are transactions that no history takes.
func wrong() []api.Txn {
	zero, server, reads, none, half, late := creates(z("0.0")), creates(z("9.1")), creates(z("9.1")), creates(z("9.1")), creates(z("9.0")), creates(z("9.1"))
	server.From.Server = api.MaxServers
	reads.Req = api.Request{Kind: api.GetData, Path: "/"}
	none.Req = api.Request{}
	late.Zxid.Epoch = api.LastEpoch + 1
	return []api.Txn{{}, zero, server, reads, none, half, late}
}
