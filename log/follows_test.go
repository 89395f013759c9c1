package log_test

import (
	"fmt"
	"math/rand/v2"
	"slices"
	"testing"

	"lagoon/api"
	"lagoon/disk"
	"lagoon/log"
)

// model says of a log what the chapter does, in another way: its segments' transactions, from which all else is reckoned anew.
type model struct {
	room, size int
	after      api.Zxid
	segments   [][]api.Txn
	others     []api.File
}

func (m *model) all() []api.Txn { return slices.Concat(m.segments...) }

func (m *model) last() api.Zxid {
	if l := m.all(); len(l) > 0 {
		return l[len(l)-1].Zxid
	}
	return m.after
}

func (m *model) files(t *testing.T) []api.File {
	return append(filesOf(t, 5, m.segments...), m.others...)
}

// begins tells whether the next transaction begins a segment.
func (m *model) begins() bool { return len(m.segments[len(m.segments)-1]) >= m.size }

func (m *model) grow() {
	if m.begins() {
		m.segments = append(m.segments, nil)
	}
}

func (m *model) add(x api.Txn) {
	m.grow()
	end := len(m.segments) - 1
	m.segments[end] = append(m.segments[end], x)
}

// refuses is what an Append is answered by a disk with power.
func (m *model) refuses(t *testing.T, x api.Txn, may bool) api.Errno {
	if !may || x.Zxid == (api.Zxid{}) {
		return api.ErrTxn
	}
	last := m.last()
	if x.Zxid.Epoch < last.Epoch || x.Zxid.Epoch == last.Epoch && x.Zxid.N <= last.N {
		return api.ErrOrder
	}
	used := 0
	for _, f := range m.files(t) {
		used += len(f.Bytes)
	}
	if m.begins() && len(m.files(t)) >= api.MaxFiles {
		return api.ErrName
	}
	if used+len(segment(t, x)) > m.room {
		return api.ErrFull
	}
	return api.OK
}

// anyTxn is a transaction near the last one, and whether it may be.
func anyTxn(g *rand.Rand, last api.Zxid) (api.Txn, bool) {
	x := open(1)
	if g.IntN(8) == 0 {
		x = widest(1)
	}
	x.Zxid = api.Zxid{Epoch: max(last.Epoch, 1), N: last.N + 1 + uint32(g.IntN(3))}
	switch g.IntN(12) {
	case 0:
		x.Zxid = last
	case 1:
		x.Zxid = api.Zxid{Epoch: x.Zxid.Epoch + 1, N: 1}
	case 2:
		x.Zxid = z(1 + uint32(g.IntN(5)))
	case 3:
		x.Req.Version = 1
		return x, false
	case 4:
		x.Zxid = api.Zxid{}
	}
	return x, x.Zxid == (api.Zxid{}) || x.Zxid.Epoch > 0 && x.Zxid.N > 0
}

// restart takes the power, gives it back with so many bytes of each tail, and opens the log with another size.
func restart(t *testing.T, g *rand.Rand, m *model, d *disk.Disk, keep int) *log.Log {
	t.Helper()
	d.Off()
	d.Start(slices.Repeat([]int{keep}, api.MaxFiles)...)
	m.size = 1 + g.IntN(4)
	return opened(t, d, 5, m.size, m.after)
}

// cutShort does an Append with the power going at the writes' first or second, and keeps some of what was not synced.
func cutShort(t *testing.T, g *rand.Rand, m *model, d *disk.Disk, l *log.Log, x api.Txn) *log.Log {
	t.Helper()
	done := g.IntN(3)
	whole := len(segment(t, x))
	keep := []int{-1, 0, 1, whole - 1, whole, whole + 1, g.IntN(whole)}[g.IntN(7)]
	d.Arm(done)
	want := api.ErrDown
	if done == 2 {
		want = api.OK
	}
	answers(t, "P10.4: armed", l.Append(x), want)
	if done == 2 || done == 1 && keep >= whole {
		m.add(x)
	} else if done == 1 {
		m.grow() // the file is there, without a whole frame
	}
	return restart(t, g, m, d, keep)
}

// TestAnyCalls: any Appends, those that are refused too, any losses of power: the log, and every Open, tells what the model does.
func TestAnyCalls(t *testing.T) {
	met := map[api.Errno]int{}
	for seed := range uint64(12) {
		g := rand.New(rand.NewPCG(10, seed))
		m := &model{room: 2000 + g.IntN(60000), size: 1 + g.IntN(4), segments: [][]api.Txn{nil}}
		for i := range g.IntN(50) {
			m.others = append(m.others, file(fmt.Sprintf("m%02d", i), []byte("other")))
		}
		if seed%2 == 1 {
			m.after = z(uint32(g.IntN(4)))
		}
		d, e := disk.From(m.room, m.files(t))
		if e != api.OK {
			t.Fatalf("the test's own disk: %d", e)
		}
		l := opened(t, d, 5, m.size, m.after)
		for range 300 {
			x, may := anyTxn(g, m.last())
			want := m.refuses(t, x, may)
			met[want]++
			if want == api.OK && g.IntN(4) == 0 {
				l = cutShort(t, g, m, d, l, x)
			} else {
				answers(t, "P10.4", l.Append(x), want)
				if want == api.OK {
					m.add(x)
				}
			}
			if g.IntN(20) == 0 {
				l = restart(t, g, m, d, g.IntN(3))
			}
			tells(t, fmt.Sprintf("any calls, seed %d", seed), l, 5, len(m.segments), m.all())
			holds(t, fmt.Sprintf("any calls, seed %d", seed), d, m.files(t)...)
			if t.Failed() {
				return
			}
		}
	}
	for _, e := range []api.Errno{api.OK, api.ErrTxn, api.ErrOrder, api.ErrFull, api.ErrName} {
		if met[e] < 50 {
			t.Errorf("the test's own calls: too few for error %d: %v", e, met)
		}
	}
}

// TestOneByOne: a log by Appends, from whichever beginning on, has the files that Create of all gives; what Create wrote, Open tells.
func TestOneByOne(t *testing.T) {
	for _, size := range []int{1, 2, 3, 5, 64} {
		for n := range uint32(14) {
			whole := diskOf(t)
			made := created(t, whole, 5, size, opens(1, n))
			tells(t, "What follows: what Create wrote", opened(t, whole, 5, size, api.Zxid{}), 5, len(made.Names()), opens(1, n))
			for first := range n + 1 {
				d := diskOf(t)
				l := created(t, d, 5, size, opens(1, first))
				for _, x := range opens(first+1, n) {
					answers(t, "P10.4", l.Append(x), api.OK)
				}
				holds(t, "What follows: one by one", d, whole.Image()...)
				tells(t, "What follows: one by one", l, 5, len(made.Names()), opens(1, n))
				counted(t, "What follows: one by one", d, 2*max(1, (int(first)+size-1)/size)+2*int(n-first))
			}
		}
	}
}

// TestAnyBytes: of any bytes in its segments Open ends, and takes what the chapter says.
func TestAnyBytes(t *testing.T) {
	g := rand.New(rand.NewPCG(10, 99))
	for range 3000 {
		parts := make([][]byte, 1+g.IntN(3))
		for i := range parts {
			for range g.IntN(4) {
				b := segment(t, open(1+uint32(g.IntN(9))))
				switch g.IntN(10) {
				case 0:
					b[g.IntN(len(b))] ^= byte(1 << g.IntN(8))
				case 1:
					b = b[:g.IntN(len(b))]
				case 2:
					b = framed(b)
				}
				parts[i] = append(parts[i], b...)
			}
		}
		looksAt(t, parts, z(uint32(g.IntN(3))))
	}
}

// looksAt holds an Open of these segments against the chapter's words, said once more.
func looksAt(t *testing.T, parts [][]byte, after api.Zxid) {
	t.Helper()
	var files []api.File
	var all []api.Txn
	fits, last := true, after
	end := 0
	for i, b := range parts {
		files = append(files, file(log.Name(5, i+1), b))
		end = 0
		for _, to := range wholeEnds(b) {
			x := open(0)
			if to-end == frameBytes {
				x.Zxid.N = uint32(b[end+15])
			}
			fits = fits && slices.Equal(b[end:to], segment(t, x)) && x.Zxid.N > last.N
			all, last, end = append(all, x), x.Zxid, to
		}
		fits = fits && (i == len(parts)-1 || end > 0 && end == len(b))
	}
	if !fits {
		torn(t, "P10.3: any bytes", files, after, api.ErrTorn)
		return
	}
	left := slices.Clone(files)
	cut := parts[len(parts)-1]
	left[len(left)-1] = file(log.Name(5, len(parts)), cut[:end])
	finds(t, "P10.3: any bytes", files, after, len(parts), all, left, min(len(cut)-end, 1))
}
