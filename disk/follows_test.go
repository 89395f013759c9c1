package disk_test

import (
	"bytes"
	"maps"
	"math/rand/v2"
	"slices"
	"strings"
	"testing"

	"lagoon/api"
	"lagoon/disk"
)

// call: one that may write, as it can be done to any disk.
type call struct {
	kind     int
	name, to string
	text     string
	n        int
}

const kindsOfCalls = 5

func (c call) do(d *disk.Disk) api.Errno {
	switch c.kind {
	case 0:
		return d.Append(c.name, []byte(c.text))
	case 1:
		return d.Sync(c.name)
	case 2:
		return d.Cut(c.name, c.n)
	case 3:
		return d.Rename(c.name, c.to)
	default:
		return d.Remove(c.name)
	}
}

func anyName(g *rand.Rand) string { return []string{"a", "b", "c", "d.1", "B"}[g.IntN(5)] }

func anyCall(g *rand.Rand) call {
	return call{kind: g.IntN(kindsOfCalls), name: anyName(g), to: anyName(g), text: "0123456789"[g.IntN(6):][:g.IntN(5)], n: g.IntN(9) - 1}
}

// model says the same as the chapter does, in another way: files in a map, everything reckoned anew.
type model struct {
	room, writes int
	on           bool
	armed        int
	files        map[string]api.File
}

func (m *model) used() int {
	n := 0
	for _, f := range m.files {
		n += len(f.Bytes)
	}
	return n
}

func (m *model) refuses(c call) api.Errno {
	_, there := m.files[c.name]
	switch {
	case !m.on:
		return api.ErrDown
	case strings.Contains(c.name, "B") || c.kind == 3 && strings.Contains(c.to, "B"):
		return api.ErrName
	case c.kind == 0 && m.used()+len(c.text) > m.room:
		return api.ErrFull
	case c.kind != 0 && !there:
		return api.ErrFile
	case c.kind == 2 && (c.n < 0 || c.n > len(m.files[c.name].Bytes)):
		return api.ErrArg
	}
	return api.OK
}

func (m *model) do(c call) api.Errno {
	if e := m.refuses(c); e != api.OK {
		return e
	}
	if m.armed == 0 {
		m.on, m.armed = false, -1
		return api.ErrDown
	}
	if m.armed > 0 {
		m.armed--
	}
	m.writes++
	f := m.files[c.name]
	delete(m.files, c.name)
	f.Name = c.name
	switch c.kind {
	case 0:
		f.Bytes = append(bytes.Clone(f.Bytes), c.text...)
	case 1:
		f.Synced = len(f.Bytes)
	case 2:
		f.Bytes, f.Synced = f.Bytes[:c.n:c.n], c.n
	case 3:
		f.Name = c.to
	default:
		return api.OK
	}
	m.files[f.Name] = f
	return api.OK
}

func (m *model) start(keep []int) {
	if m.on {
		return
	}
	m.on = true
	for i, name := range slices.Sorted(maps.Keys(m.files)) {
		f := m.files[name]
		stay := f.Synced
		for i < len(keep) && stay < len(f.Bytes) && stay-f.Synced < keep[i] {
			stay++
		}
		f.Bytes, f.Synced = f.Bytes[:stay:stay], stay
		m.files[name] = f
	}
}

func (m *model) image() []api.File {
	var out []api.File
	for _, name := range slices.Sorted(maps.Keys(m.files)) {
		out = append(out, m.files[name])
	}
	return out
}

func anyKeep(g *rand.Rand) []int {
	keep := make([]int, g.IntN(6))
	for i := range keep {
		keep[i] = g.IntN(8) - 2
	}
	return keep
}

// TestAgainstModel: any calls in any order.
func TestAgainstModel(t *testing.T) {
	g := rand.New(rand.NewPCG(1, 2))
	for round := range 400 {
		room := g.IntN(24)
		d := fresh(t, room)
		m := &model{room: room, on: true, armed: -1, files: map[string]api.File{}}
		for range 80 {
			switch x := g.IntN(20); {
			case x == 0:
				d.Off()
				m.on, m.armed = false, -1
			case x == 1:
				n := g.IntN(7) - 1
				d.Arm(n)
				if m.on {
					m.armed = n
				}
			case x <= 3:
				keep := anyKeep(g)
				d.Start(keep...)
				m.start(keep)
			default:
				c := anyCall(g)
				if got, want := c.do(d), m.do(c); got != want {
					t.Fatalf("round %d: %+v: %d, not %d", round, c, got, want)
				}
			}
			holds(t, "against the model", d, m.image()...)
			if d.On() != m.on || d.Writes() != m.writes || t.Failed() {
				t.Fatalf("round %d: On %v, Writes %d, not %v, %d", round, d.On(), d.Writes(), m.on, m.writes)
			}
		}
	}
}

// synced tells of each file what is durable of it.
func synced(d *disk.Disk) map[string]string {
	out := map[string]string{}
	for _, f := range d.Image() {
		out[f.Name] = string(f.Bytes[:f.Synced])
	}
	return out
}

// TestSyncedStays: behind Appends, Syncs and losses of power a file begins with what was durable of it.
func TestSyncedStays(t *testing.T) {
	g := rand.New(rand.NewPCG(3, 4))
	for range 300 {
		d := fresh(t, 200)
		for range 40 {
			before := synced(d)
			c := anyCall(g)
			c.kind %= 2
			if g.IntN(8) == 0 {
				d.Off()
				d.Start(anyKeep(g)...)
			} else {
				c.do(d)
			}
			for name, text := range before {
				if p, e := d.Read(name); e != api.OK || !strings.HasPrefix(string(p), text) {
					t.Fatalf("what is synced stays: %q: %q, %d, not %q", name, p, e, text)
				}
			}
		}
	}
}

// TestBeginningOfTail: of each file there stays a beginning, of the length that was asked for.
func TestBeginningOfTail(t *testing.T) {
	g := rand.New(rand.NewPCG(5, 6))
	for range 500 {
		d := fresh(t, 100)
		for range 30 {
			anyCall(g).do(d)
		}
		before := d.Image()
		keep := anyKeep(g)
		d.Off()
		d.Start(keep...)
		after := d.Image()
		if len(after) != len(before) {
			t.Fatalf("a loss of power takes files: %v, then %v", before, after)
		}
		for i, f := range before {
			stay := f.Synced
			if i < len(keep) {
				stay += min(len(f.Bytes)-f.Synced, max(0, keep[i]))
			}
			if a := after[i]; a.Name != f.Name || !bytes.Equal(a.Bytes, f.Bytes[:stay]) || a.Synced != stay {
				t.Fatalf("of a tail a beginning stays: %v, kept %v: %v", f, keep, a)
			}
		}
	}
}

// TestJustTheFirstWrites: armed with n a disk is as one that was told the first n writes alone; then nothing changes until Start.
func TestJustTheFirstWrites(t *testing.T) {
	g := rand.New(rand.NewPCG(7, 8))
	for range 60 {
		var calls []call
		for range 25 {
			calls = append(calls, anyCall(g))
		}
		for n := range 26 {
			armed, free := fresh(t, 30), fresh(t, 30)
			armed.Arm(n)
			for _, c := range calls {
				e := c.do(armed)
				if free.Writes() < n {
					if want := c.do(free); e != want {
						t.Fatalf("armed with %d: %+v: %d, not %d", n, c, e, want)
					}
				}
			}
			if armed.Writes() != free.Writes() || !sameFiles(armed.Image(), free.Image()) {
				t.Fatalf("armed with %d: %v, not %v", n, armed.Image(), free.Image())
			}
		}
	}
}

// TestFromImageGoesOn: a disk made of an image answers and holds what the first one does from there on.
func TestFromImageGoesOn(t *testing.T) {
	g := rand.New(rand.NewPCG(9, 10))
	for range 400 {
		first := fresh(t, 40)
		for range 20 {
			anyCall(g).do(first)
		}
		ahead := first.Writes()
		second := fresh(t, 40, first.Image()...)
		for range 20 {
			c := anyCall(g)
			if a, b := c.do(first), c.do(second); a != b {
				t.Fatalf("From an Image goes on: %+v: %d and %d", c, a, b)
			}
			if g.IntN(6) == 0 {
				keep := anyKeep(g)
				for _, d := range []*disk.Disk{first, second} {
					d.Off()
					d.Start(keep...)
				}
			}
			holds(t, "From an Image goes on", second, first.Image()...)
		}
		counted(t, "From an Image goes on", first, ahead+second.Writes())
	}
}
