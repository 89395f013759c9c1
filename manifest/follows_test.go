package manifest_test

import (
	"bytes"
	"fmt"
	"math/rand/v2"
	"testing"

	"lagoon/api"
	"lagoon/disk"
	"lagoon/manifest"
)

// anyNumbers is a manifest of any numbers near the edges; whether it may be is told by the document's words.
func anyNumbers(g *rand.Rand) (api.Manifest, bool) {
	epoch := func() uint32 {
		return []uint32{0, 1, 2, 1<<31 - 2, 1<<31 - 1, 1 << 31, 1<<32 - 1, g.Uint32() >> 1, g.Uint32()}[g.IntN(9)]
	}
	number := func() int64 {
		return []int64{0, 1, 1<<63 - 1, int64(g.Uint64() >> 1), g.Int64N(1 << 20), -1 - g.Int64N(9)}[g.IntN(6)]
	}
	m := api.Manifest{Boot: g.Uint32(), Accepted: epoch(), Current: epoch(), Snap: number(), Log: number()}
	may := m.Current <= m.Accepted && m.Accepted <= 1<<31-1 && m.Snap >= 0 && m.Log >= 0
	return m, may
}

// TestThereAndBack: Read(Write(m)) is m, and the bytes of what may not be are read by nothing.
func TestThereAndBack(t *testing.T) {
	g := rand.New(rand.NewPCG(11, 1))
	met := [2]int{}
	for range 20000 {
		m, is := anyNumbers(g)
		if !is {
			met[0]++
			unwritten(t, m)
			unread(t, "numbers that may not be", laid(m))
			continue
		}
		met[1]++
		b, e := manifest.Write(m)
		if back, e2 := manifest.Read(b); e != api.OK || e2 != api.OK || back != m {
			t.Errorf("What follows: Read(Write(%+v)): %+v, %d, %d", m, back, e, e2)
		}
		if !bytes.Equal(b, laid(m)) {
			t.Errorf("P11.1: Write(%+v): % X", m, b)
		}
	}
	if min(met[0], met[1]) < 1000 {
		t.Errorf("the test's own manifests: %v", met)
	}
}

// TestAnyBytes: of any bytes Read ends, and what it takes is written just so.
func TestAnyBytes(t *testing.T) {
	g := rand.New(rand.NewPCG(11, 2))
	taken := 0
	for range 20000 {
		m, _ := anyNumbers(g)
		body := bodyOf(m)
		for range g.IntN(3) {
			body[g.IntN(len(body))] = byte(g.IntN(256))
		}
		b := framed(body)
		if g.IntN(4) == 0 {
			b[g.IntN(len(b))] = byte(g.IntN(256))
		}
		got, e := manifest.Read(b)
		if e != api.OK {
			answers(t, "P11.1: of any bytes", e, api.ErrMani)
			continue
		}
		taken++
		if back, e := manifest.Write(got); e != api.OK || !bytes.Equal(back, b) {
			t.Errorf("What follows: Write of what Read tells of % X: % X, %d", b, back, e)
		}
	}
	if taken < 1000 {
		t.Errorf("the test's own bytes: %d manifests of them", taken)
	}
}

// model says of a disk with a manifest what the chapter does.
type model struct {
	room       int
	has        bool
	m          api.Manifest
	left       bool // New is there
	long, sure int  // with so many bytes, of which so many are durable
}

// put is what a Put with so many writes to go answers and leaves.
func (s *model) put(m api.Manifest, may bool, armed int) api.Errno {
	if !may {
		return api.ErrMani
	}
	if s.left {
		if armed == 0 {
			return api.ErrDown
		}
		armed--
		s.left, s.long, s.sure = false, 0, 0
	}
	used := whole
	if s.has {
		used += whole
	}
	if used > s.room {
		return api.ErrFull
	}
	switch {
	case armed == 0:
		return api.ErrDown
	case armed == 1:
		s.left, s.long, s.sure = true, whole, 0
		return api.ErrDown
	case armed == 2:
		s.left, s.long, s.sure = true, whole, whole
		return api.ErrDown
	}
	s.has, s.m = true, m
	return api.OK
}

// restart is a loss of power that leaves so many bytes of a tail.
func (s *model) restart(keep int) {
	s.long = s.sure + min(max(keep, 0), s.long-s.sure)
	s.sure = s.long
}

// agrees looks that a disk is as the model has it.
func (s *model) agrees(t *testing.T, what string, d *disk.Disk) {
	t.Helper()
	if s.has {
		tells(t, what, d, s.m)
	} else {
		tellsNone(t, what, d, api.OK)
	}
	b, e := d.Read("manifest.new")
	if s.left != (e == api.OK) || len(b) != s.long {
		t.Errorf("%s: New %v with %d bytes, not %v with %d", what, e == api.OK, len(b), s.left, s.long)
	}
}

// TestAnyCalls: any Puts with any losses of power, on disks of any room.
func TestAnyCalls(t *testing.T) {
	met := map[api.Errno]int{}
	for seed := range uint64(200) {
		g := rand.New(rand.NewPCG(11, 100+seed))
		s := &model{room: []int{0, whole - 1, whole, 2*whole - 1, 2 * whole, 3 * whole}[g.IntN(6)]}
		d := diskOf(t, s.room)
		for step := range 60 {
			what := fmt.Sprintf("any calls, seed %d, step %d", seed, step)
			m, may := anyNumbers(g)
			armed := []int{0, 1, 2, 3, 4, 5, 9, 9}[g.IntN(8)]
			d.Arm(armed)
			want := s.put(m, may, armed)
			met[want]++
			answers(t, what, manifest.Put(d, m), want)
			keep := []int{-1, 0, 1, whole - 1, whole, whole + 1}[g.IntN(6)]
			restarted(d, keep)
			s.restart(keep)
			s.agrees(t, what, d)
			if t.Failed() {
				return
			}
		}
	}
	for _, e := range []api.Errno{api.OK, api.ErrMani, api.ErrFull, api.ErrDown} {
		if met[e] < 300 {
			t.Errorf("the test's own calls: too few for error %d: %v", e, met)
		}
	}
}
