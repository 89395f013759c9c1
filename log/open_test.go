package log_test

import (
	"math"
	"slices"
	"testing"

	"lagoon/api"
	"lagoon/disk"
	"lagoon/log"
)

// finds looks what Open makes of files: these transactions in so many segments, and the files as they must be then; writes: how many.
func finds(t *testing.T, what string, files []api.File, after api.Zxid, segments int, all []api.Txn, left []api.File, writes int) {
	t.Helper()
	d := diskOf(t, files...)
	l, e := log.Open(d, 5, 2, after)
	if e != api.OK || l == nil {
		t.Errorf("%s: %d, of files %v", what, e, sizes(files))
		return
	}
	tells(t, what, l, 5, segments, all)
	holds(t, what, d, left...)
	counted(t, what, d, writes)
}

// torn looks that Open takes none of these files for a log, and leaves them.
func torn(t *testing.T, what string, files []api.File, after api.Zxid, want api.Errno) {
	t.Helper()
	d := diskOf(t, files...)
	l, e := log.Open(d, 5, 2, after)
	refused(t, what, l, e, want)
	holds(t, what, d, files...)
	counted(t, what, d, 0)
}

func TestOpen(t *testing.T) {
	for n := range uint32(7) {
		parts := [][]api.Txn{opens(1, min(n, 2))}
		for at := uint32(3); at <= n; at += 2 {
			parts = append(parts, opens(at, min(n, at+1)))
		}
		files := filesOf(t, 5, parts...)
		finds(t, "P10.3", files, api.Zxid{}, len(parts), opens(1, n), files, 0)
	}
}

// TestOpenWithoutEnd: the last segment may have no transaction, whichever it is.
func TestOpenWithoutEnd(t *testing.T) {
	for _, parts := range [][][]api.Txn{{nil}, {opens(1, 1), nil}, {opens(1, 2), nil}, {opens(1, 1), opens(2, 3), nil}} {
		files := filesOf(t, 5, parts...)
		finds(t, "P10.3: an empty last segment", files, api.Zxid{}, len(parts), slices.Concat(parts...), files, 0)
	}
	for _, parts := range [][][]api.Txn{{nil, opens(1, 1)}, {nil, nil}, {opens(1, 1), nil, nil}, {opens(1, 1), nil, opens(2, 2)}, {opens(1, 1), opens(2, 3), nil, opens(4, 4)}} {
		torn(t, "P10.3: an empty elder segment", filesOf(t, 5, parts...), api.Zxid{}, api.ErrTorn)
	}
}

// TestOpenMissing: without segment 1 there is none; with a hole it is torn.
func TestOpenMissing(t *testing.T) {
	one, two := segment(t, open(1)), segment(t, open(2))
	torn(t, "P10.3: no file", nil, api.Zxid{}, api.ErrFile)
	for _, name := range []string{"log.5.2", "log.5.3", "log.5.fff"} {
		torn(t, "P10.3: no segment 1 but "+name, []api.File{file(name, one)}, api.Zxid{}, api.ErrFile)
		torn(t, "P10.3: no segment 1, and something torn", []api.File{file(name, one[:9])}, api.Zxid{}, api.ErrFile)
	}
	torn(t, "P10.3: segments 2 and 3", []api.File{file("log.5.2", one), file("log.5.3", two)}, api.Zxid{}, api.ErrFile)
	for _, name := range []string{"log.5.3", "log.5.4", "log.5.10", "log.5.fff"} {
		torn(t, "P10.3: a hole ahead of "+name, []api.File{file("log.5.1", one), file(name, two)}, api.Zxid{}, api.ErrTorn)
		torn(t, "P10.3: a hole, an empty file behind it", []api.File{file("log.5.1", one), file(name)}, api.Zxid{}, api.ErrTorn)
		torn(t, "P10.3: a hole, a torn end ahead of it", []api.File{file("log.5.1", one, []byte{9}), file(name)}, api.Zxid{}, api.ErrTorn)
	}
	torn(t, "P10.3: a hole between", []api.File{file("log.5.1", one), file("log.5.2", two), file("log.5.4")}, api.Zxid{}, api.ErrTorn)
	for _, name := range nearNames() {
		near := file(name, []byte("x"))
		finds(t, "P10.3: beside "+name, []api.File{file("log.5.1", one), near}, api.Zxid{}, 1, opens(1, 1), []api.File{file("log.5.1", one), near}, 0)
		torn(t, "P10.3: nothing but "+name, []api.File{near}, api.Zxid{}, api.ErrFile)
	}
}

// TestOpenBeginnings: of each beginning of the last segment's bytes the whole frames stay, and nothing behind them.
func TestOpenBeginnings(t *testing.T) {
	elder := filesOf(t, 5, opens(1, 2))
	b := segment(t, opens(3, 5)...)
	for n := range len(b) + 1 {
		whole := n / frameBytes
		writes := min(n%frameBytes, 1)
		left := b[:whole*frameBytes]
		finds(t, "P10.3: a beginning", append(elder, file("log.5.2", b[:n])), api.Zxid{}, 2, opens(1, 2+uint32(whole)), append(elder, file("log.5.2", left)), writes)
		finds(t, "P10.3: a beginning of segment 1", []api.File{file("log.5.1", b[:n])}, z(2), 1, opens(3, 2+uint32(whole)), []api.File{file("log.5.1", left)}, writes)
	}
	// An elder segment has whole frames alone, and one at least.
	for n := range len(b) + 1 {
		files := []api.File{file("log.5.1", b[:n]), file("log.5.2", segment(t, open(9)))}
		if n == 0 || n%frameBytes != 0 {
			torn(t, "P10.3: an elder segment's beginning", files, api.Zxid{}, api.ErrTorn)
			continue
		}
		finds(t, "P10.3: an elder segment's beginning", files, api.Zxid{}, 2, append(opens(3, 2+uint32(n/frameBytes)), open(9)), files, 0)
	}
}

// TestOpenTail: what is not durable is read as well, and what is torn is cut off durably; nothing else is synced.
func TestOpenTail(t *testing.T) {
	b := segment(t, opens(1, 2)...)
	tail := api.File{Name: "log.5.1", Bytes: b, Synced: 3}
	finds(t, "P10.3: a tail", []api.File{tail}, api.Zxid{}, 1, opens(1, 2), []api.File{tail}, 0)
	tail.Bytes = b[:len(b)-1]
	finds(t, "P10.3: a torn tail", []api.File{tail}, api.Zxid{}, 1, opens(1, 1), []api.File{file("log.5.1", b[:frameBytes])}, 1)
}

// TestOpenTurned: one byte of the last segment turned to another one: what is whole ahead of it stays.
func TestOpenTurned(t *testing.T) {
	b := segment(t, opens(1, 3)...)
	for at := range b {
		for _, by := range []byte{1, 0x80, 0xFF} {
			turned := slices.Clone(b)
			turned[at] ^= by
			if n := len(wholeEnds(turned)); n != at/frameBytes {
				t.Fatalf("the test's own frames: %d are whole with byte %d turned", n, at)
			}
			left := turned[:at/frameBytes*frameBytes]
			finds(t, "P10.3: a byte turned", []api.File{file("log.5.1", turned)}, api.Zxid{}, 1, opens(1, uint32(at/frameBytes)), []api.File{file("log.5.1", left)}, 1)
			torn(t, "P10.3: a byte turned in an elder one", []api.File{file("log.5.1", turned), file("log.5.2")}, api.Zxid{}, api.ErrTorn)
		}
	}
}

// TestOpenRubbish: bytes that are no frame at all, and whole frames behind what is torn, which count for nothing.
func TestOpenRubbish(t *testing.T) {
	one, two := segment(t, open(1)), segment(t, open(2))
	for _, rest := range [][]byte{{0}, {9}, {0x42}, make([]byte, 9), make([]byte, 100), []byte("log.5.1 log.5.1"), one[1:], two[:34], append([]byte{0}, two...)} {
		finds(t, "P10.3: rubbish behind a frame", []api.File{file("log.5.1", one, rest)}, api.Zxid{}, 1, opens(1, 1), []api.File{file("log.5.1", one)}, 1)
		finds(t, "P10.3: rubbish alone", []api.File{file("log.5.1", rest)}, z(7), 1, nil, []api.File{file("log.5.1")}, 1)
		torn(t, "P10.3: rubbish in an elder one", []api.File{file("log.5.1", one, rest), file("log.5.2", two)}, api.Zxid{}, api.ErrTorn)
	}
}

// TestOpenBodies: a whole frame whose body is no transaction's bytes, or that of one that no log has.
func TestOpenBodies(t *testing.T) {
	one, two := segment(t, open(1)), segment(t, open(2))
	body := laidOpen(open(2))
	late := slices.Clone(body)
	late[0] = 0x80 // an epoch above the last
	reads := slices.Clone(body)
	reads[21] = byte(api.GetData)
	zero := open(0)
	zero.Zxid = api.Zxid{}
	for _, bad := range [][]byte{
		framed([]byte{1, 2, 3}), framed(body[:len(body)-1]), framed(append(slices.Clone(body), 0)), framed(late), framed(reads),
		framed(make([]byte, api.MaxTxn+1)), framed(laidOpen(zero)), framed(laidOpen(api.Txn{Zxid: api.Zxid{Epoch: 1}, Req: open(1).Req})),
	} {
		for _, files := range [][]api.File{
			{file("log.5.1", bad)},
			{file("log.5.1", one, bad)},
			{file("log.5.1", one, bad, two)},
			{file("log.5.1", one, bad, []byte{9})}, // and something torn behind it
			{file("log.5.1", one), file("log.5.2", bad)},
			{file("log.5.1", bad), file("log.5.2", two)},
			{file("log.5.1", one, bad), file("log.5.2")},
			{file("log.5.1", bad), file("log.5.2", []byte{9})},
		} {
			torn(t, "P10.3: not a transaction", files, api.Zxid{}, api.ErrTorn)
		}
	}
}

func TestOpenOrder(t *testing.T) {
	of := func(z api.Zxid) []byte { return segment(t, api.Txn{Zxid: z, Req: open(1).Req}) }
	low, mid, high := of(api.Zxid{Epoch: 1, N: 7}), of(api.Zxid{Epoch: 2, N: 3}), of(api.Zxid{Epoch: 2, N: 4})
	all := []api.Txn{{Zxid: api.Zxid{Epoch: 1, N: 7}, Req: open(1).Req}, {Zxid: api.Zxid{Epoch: 2, N: 3}, Req: open(1).Req}, {Zxid: api.Zxid{Epoch: 2, N: 4}, Req: open(1).Req}}
	for _, parts := range [][][]byte{{low, mid, high}} {
		files := []api.File{file("log.5.1", parts...)}
		finds(t, "P10.3: rising", files, api.Zxid{}, 1, all, files, 0)
		files = []api.File{file("log.5.1", low), file("log.5.2", mid), file("log.5.3", high)}
		finds(t, "P10.3: rising over segments", files, api.Zxid{}, 3, all, files, 0)
	}
	for _, parts := range [][]([]byte){{low, low}, {mid, low}, {high, mid}, {low, mid, mid}, {low, high, mid}, {mid, high, low}, {mid, low, high}} {
		torn(t, "P10.3: not rising", []api.File{file("log.5.1", parts...)}, api.Zxid{}, api.ErrTorn)
		torn(t, "P10.3: not rising, and torn", []api.File{file("log.5.1", append(parts, []byte{9})...)}, api.Zxid{}, api.ErrTorn)
		torn(t, "P10.3: not rising in an elder one", []api.File{file("log.5.1", parts...), file("log.5.2")}, api.Zxid{}, api.ErrTorn)
		var files []api.File
		for i, p := range parts {
			files = append(files, file(log.Name(5, i+1), p))
		}
		torn(t, "P10.3: not rising over segments", files, api.Zxid{}, api.ErrTorn)
	}
}

// TestOpenAfter: the first must be above it; without transactions it is what the next one must be above.
func TestOpenAfter(t *testing.T) {
	files := filesOf(t, 5, opens(4, 5), opens(6, 6))
	for _, c := range []struct {
		after api.Zxid
		fits  bool
	}{
		{api.Zxid{}, true}, {z(0), true}, {z(1), true}, {z(3), true}, {z(4), false}, {z(5), false}, {z(6), false}, {z(7), false},
		{api.Zxid{N: 9}, true}, {api.Zxid{N: math.MaxUint32}, true}, {api.Zxid{Epoch: 2}, false}, {api.Zxid{Epoch: math.MaxUint32, N: math.MaxUint32}, false},
	} {
		if c.fits {
			finds(t, "P10.3: after below the first", files, c.after, 2, opens(4, 6), files, 0)
		} else {
			torn(t, "P10.3: after at the first or above", files, c.after, api.ErrTorn)
		}
		// Without transactions every after fits.
		finds(t, "P10.3: no transaction", []api.File{file("log.5.1")}, c.after, 1, nil, []api.File{file("log.5.1")}, 0)
		finds(t, "P10.3: nothing whole", []api.File{file("log.5.1", []byte{9})}, c.after, 1, nil, []api.File{file("log.5.1")}, 1)
	}
}

func TestOpenArguments(t *testing.T) {
	for _, c := range []struct {
		number int64
		size   int
		e      api.Errno
	}{
		{5, 1, api.OK}, {5, 2, api.OK}, {5, 64, api.OK},
		{5, 0, api.ErrArg}, {5, 65, api.ErrArg}, {5, -1, api.ErrArg}, {5, math.MaxInt, api.ErrArg}, {5, math.MinInt, api.ErrArg},
		{0, 2, api.ErrArg}, {-5, 2, api.ErrArg}, {math.MinInt64, 2, api.ErrArg}, {6, 2, api.ErrFile}, {math.MaxInt64, 2, api.ErrFile},
	} {
		d := diskOf(t, filesOf(t, 5, opens(1, 3))...)
		l, e := log.Open(d, c.number, c.size, api.Zxid{})
		if e != c.e || (l == nil) == (e == api.OK) {
			t.Errorf("P10.3: Open(%d, %d): %d, not %d", c.number, c.size, e, c.e)
		}
		counted(t, "P10.3", d, 0)
		d.Off()
		l, e = log.Open(d, c.number, c.size, api.Zxid{})
		if c.e != api.ErrArg {
			c.e = api.ErrDown
		}
		refused(t, "P10.3: without power", l, e, c.e)
	}
	for _, none := range []*disk.Disk{nil, {}} {
		l, e := log.Open(none, 5, 2, api.Zxid{})
		refused(t, "R3: no disk", l, e, api.ErrArg)
	}
}

// TestOpenErrors: which comes first: what does not fit, ahead of a Cut that is refused.
func TestOpenErrors(t *testing.T) {
	one := segment(t, open(1))
	d := diskOf(t, file("log.5.1", one, one, []byte{9}))
	d.Arm(0)
	l, e := log.Open(d, 5, 2, api.Zxid{})
	refused(t, "P10.3: torn, ahead of the Cut", l, e, api.ErrTorn)
	if !d.On() {
		t.Error("P10.3: a Cut was tried where the segments do not fit")
	}

	d = diskOf(t, file("log.5.1", one, []byte{9}))
	d.Arm(0)
	l, e = log.Open(d, 5, 2, api.Zxid{})
	refused(t, "P10.3: the Cut is refused", l, e, api.ErrDown)
	holds(t, "P10.3: the Cut is refused", d, file("log.5.1", one, []byte{9}))
	d.Start()
	tells(t, "P10.3: the Cut is done later", opened(t, d, 5, 2, api.Zxid{}), 5, 1, opens(1, 1))

	d = diskOf(t, file("log.5.1", one))
	d.Arm(0)
	tells(t, "P10.3: without a write", opened(t, d, 5, 2, api.Zxid{}), 5, 1, opens(1, 1))
	if !d.On() {
		t.Error("P10.3: Open wrote where nothing is torn")
	}
}
