package log_test

import (
	"bytes"
	"encoding/binary"
	"hash/adler32"
	"slices"
	"strings"
	"testing"

	"lagoon/api"
	"lagoon/disk"
	"lagoon/log"
	"lagoon/txn"
)

// frameBytes: how many bytes the frame of an Open has: 26 of the transaction, and 9.
const frameBytes = 35

func z(n uint32) api.Zxid { return api.Zxid{Epoch: 1, N: n} }

// open is a transaction that opens a session: its bytes are few, and easily laid by hand.
func open(n uint32) api.Txn {
	return api.Txn{Zxid: z(n), From: api.Origin{Server: 3, Boot: 4, Number: 5}, Req: api.Request{Kind: api.Open, Timeout: 9}}
}

// opens are the transactions of these numbers, both ends too.
func opens(from, to uint32) []api.Txn {
	var l []api.Txn
	for n := from; n <= to; n++ {
		l = append(l, open(n))
	}
	return l
}

// widest is a transaction of as many bytes as there may be.
func widest(n uint32) api.Txn {
	long := strings.Repeat("w", api.MaxId)
	var acl []api.Entry
	var who []api.Id
	for range api.MaxAcl {
		acl = append(acl, api.Entry{Perms: -1, Who: api.Id{Scheme: long, Name: long}})
		who = append(who, api.Id{Scheme: long, Name: long})
	}
	op := api.Request{Kind: api.Create, Path: strings.Repeat("/", api.MaxPath), Data: bytes.Repeat([]byte{0xDA}, api.MaxData), Acl: acl, Ephemeral: true, Sequence: true}
	return api.Txn{Zxid: z(n), Req: api.Request{Kind: api.Multi, Session: 1, Who: who, Ops: slices.Repeat([]api.Request{op}, api.MaxOps)}}
}

// laidOpen is the bytes of an Open by the document's words, without packages pack and txn.
func laidOpen(t api.Txn) []byte {
	order := binary.BigEndian
	b := order.AppendUint32(order.AppendUint32(nil, t.Zxid.Epoch), t.Zxid.N)
	b = order.AppendUint32(append(b, byte(t.From.Server)), t.From.Boot)
	b = order.AppendUint64(b, uint64(t.From.Number))
	return order.AppendUint32(append(b, byte(t.Req.Kind)), uint32(t.Req.Timeout))
}

// framed is the frame of a body by the document's words, the sum by Go's own library.
func framed(body []byte) []byte {
	b := binary.BigEndian.AppendUint32(nil, uint32(len(body)))
	b = binary.BigEndian.AppendUint32(b, adler32.Checksum(body))
	return append(append(b, body...), 0x42)
}

// segment is the bytes of these transactions in a file.
func segment(t *testing.T, l ...api.Txn) []byte {
	t.Helper()
	var out []byte
	for _, x := range l {
		body, e := laidOpen(x), api.OK
		if x.Req.Kind != api.Open {
			body, e = txn.Write(x)
		}
		if e != api.OK {
			t.Fatalf("the test's own transaction %+v: %d", x, e)
		}
		out = append(out, framed(body)...)
	}
	return out
}

// wholeEnds are the places behind the whole frames at the beginning of b, by the document's words.
func wholeEnds(b []byte) []int {
	var out []int
	at := 0
	for len(b)-at >= 9 {
		n := int64(binary.BigEndian.Uint32(b[at:]))
		if n < 1 || n > api.MaxFrame || n > int64(len(b)-at-9) || !bytes.Equal(framed(b[at+8:at+8+int(n)]), b[at:at+9+int(n)]) {
			break
		}
		at += 9 + int(n)
		out = append(out, at)
	}
	return out
}

// file is one whose bytes are all durable.
func file(name string, parts ...[]byte) api.File {
	b := slices.Concat(parts...)
	return api.File{Name: name, Bytes: b, Synced: len(b)}
}

// filesOf are the files of a log with these segments, rising by name as long as there are less than 16.
func filesOf(t *testing.T, number int64, segments ...[]api.Txn) []api.File {
	t.Helper()
	var out []api.File
	for i, l := range segments {
		out = append(out, file(log.Name(number, i+1), segment(t, l...)))
	}
	return out
}

// diskOf is a disk of much room with these files.
func diskOf(t *testing.T, files ...api.File) *disk.Disk {
	t.Helper()
	d, e := disk.From(api.MaxRoom, files)
	if e != api.OK {
		t.Fatalf("the test's own disk: %d", e)
	}
	return d
}

// roomOf is an empty disk of that room.
func roomOf(t *testing.T, room int) *disk.Disk {
	t.Helper()
	d, e := disk.New(room)
	if e != api.OK {
		t.Fatalf("the test's own disk: %d", e)
	}
	return d
}

// created is a log that must be made.
func created(t *testing.T, d *disk.Disk, number int64, size int, l []api.Txn) *log.Log {
	t.Helper()
	made, e := log.Create(d, number, size, l)
	if e != api.OK || made == nil {
		t.Fatalf("P10.2: Create(%d, %d, %d transactions): %d", number, size, len(l), e)
	}
	return made
}

// opened is a log that must be found.
func opened(t *testing.T, d *disk.Disk, number int64, size int, after api.Zxid) *log.Log {
	t.Helper()
	l, e := log.Open(d, number, size, after)
	if e != api.OK || l == nil {
		t.Fatalf("P10.3: Open(%d, %d, %v): %d, of %v", number, size, after, e, d.Names())
	}
	return l
}

// tells looks that a log tells these transactions, and just so many segments.
func tells(t *testing.T, what string, l *log.Log, number int64, segments int, want []api.Txn) {
	t.Helper()
	if got := l.All(); !slices.EqualFunc(got, want, txn.Same) {
		t.Errorf("%s: All: %d transactions, not %d:\n%+v\n%+v", what, len(got), len(want), got, want)
	}
	var names []string
	for i := range segments {
		names = append(names, log.Name(number, i+1))
	}
	if got := l.Names(); !slices.Equal(got, names) {
		t.Errorf("%s: Names %q, not %q", what, got, names)
	}
}

func sameFiles(a, b []api.File) bool {
	return slices.EqualFunc(a, b, func(x, y api.File) bool {
		return x.Name == y.Name && bytes.Equal(x.Bytes, y.Bytes) && x.Synced == y.Synced
	})
}

// holds looks that a disk has just these files.
func holds(t *testing.T, what string, d *disk.Disk, want ...api.File) {
	t.Helper()
	want = slices.SortedFunc(slices.Values(want), func(a, b api.File) int { return strings.Compare(a.Name, b.Name) })
	if got := d.Image(); !sameFiles(got, want) {
		t.Errorf("%s: files %v, not %v", what, sizes(got), sizes(want))
	}
}

// size: of a file, for what a test says.
type size struct {
	name       string
	all, whole int
}

func sizes(l []api.File) []size {
	var out []size
	for _, f := range l {
		out = append(out, size{f.Name, len(f.Bytes), f.Synced})
	}
	return out
}

// answers looks at the error of one call.
func answers(t *testing.T, what string, got, want api.Errno) {
	t.Helper()
	if got != want {
		t.Errorf("%s: %d, not %d", what, got, want)
	}
}

// counted looks how many writes were done.
func counted(t *testing.T, what string, d *disk.Disk, want int) {
	t.Helper()
	if d.Writes() != want {
		t.Errorf("%s: %d writes, not %d", what, d.Writes(), want)
	}
}

// refused looks that a call that makes a log answered this error, and no log.
func refused(t *testing.T, what string, l *log.Log, e, want api.Errno) {
	t.Helper()
	if e != want || l != nil {
		t.Errorf("%s: %d, a log %v, not %d", what, e, l != nil, want)
	}
}

// wrong are transactions of a zxid that may be, or of zero, that no log takes.
func wrong() []api.Txn {
	zero, server, reads, none, half := open(0), open(9), open(9), open(9), open(9)
	zero.Zxid = api.Zxid{}
	server.From.Server = api.MaxServers
	reads.Req = api.Request{Kind: api.GetData, Path: "/"}
	none.Req = api.Request{}
	half.Zxid = api.Zxid{Epoch: 2}
	late := open(9)
	late.Zxid.Epoch = api.LastEpoch + 1
	return []api.Txn{{}, zero, server, reads, none, half, late}
}

// nearNames are names of files that are no segment's of log 5, but nearly so.
func nearNames() []string {
	return []string{
		"log.5", "log.5.", "log.5.0", "log.5.01", "log.5.001", "log.5.g", "log.5.1.", "log.5.1.1", "log.5.x1", "log.5.0x1",
		"log.5.1000", "log.5.10000", "log.5.ffffffff", "log.5.100000001", "log.5.1ffffffffffffffff", "log.05.1", "log.55.1", "log.50.1", "log..1", "log.1", "log.1.5", "log", "1", "2", "fff",
		"log51", "xlog.5.1", "snap.5", "manifest", "log.5.1.new",
	}
}
