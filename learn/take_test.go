package learn_test

import (
	"math"
	"testing"

	"lagoon/api"
	"lagoon/packet"
)

// follower is one with a snapshot and a log that has gaps; its last is (2, 1).
func follower(t *testing.T) *pupil {
	t.Helper()
	return begun(t, 3, z(1, 2), logOf(z(1, 3), z(1, 5), z(2, 1)))
}

// standing is where a Learner of that follower may stand, and the packets that lead there.
type standing struct {
	what string
	led  []api.Packet
}

func (s standing) pupil(t *testing.T) *pupil {
	t.Helper()
	return follower(t).fit(t, s.what, s.led...)
}

// standings are all places that the chapter tells apart. The Chunks that have not ended are the beginning of the image that pieces gives.
func standings() []standing {
	first, rest := pieces()
	toEnd := func(what string, end api.Zxid, led ...api.Packet) standing {
		return standing{what + ", done", append(led, newLeader(3, end))}
	}
	return []standing{
		{"at first", nil},
		{"behind a Trunc", []api.Packet{trunc(z(1, 3))}},
		{"behind a Trunc to the snapshot's", []api.Packet{trunc(z(1, 2))}},
		{"behind a Trunc to the last", []api.Packet{trunc(z(2, 1))}},
		{"behind a Chunk", []api.Packet{piece(first)}},
		{"behind two Chunks", []api.Packet{piece(first), piece(rest[:9])}},
		{"behind Chunks that are no beginning of a tree's", []api.Packet{piece(rest), piece(first)}},
		{"behind Chunks that are a tree's, none of them final", []api.Packet{piece(first), piece(rest)}},
		{"behind a copy", []api.Packet{piece(first), final(rest)}},
		{"behind a copy of one piece", []api.Packet{final(imageAt(z(2, 1)))}},
		{"behind a Diff", []api.Packet{diff(z(2, 1), at(z(2, 2)))}},
		{"behind two Diffs", []api.Packet{diff(z(2, 1), at(z(2, 2))), diff(z(2, 2), rich(z(3, 1)))}},
		{"behind a Trunc and a Diff", []api.Packet{trunc(z(1, 3)), diff(z(1, 3), at(z(2, 2)))}},
		{"behind a copy and a Diff", []api.Packet{piece(first), final(rest), diff(z(2, 2), rich(z(3, 1)))}},
		toEnd("at first", z(2, 1)),
		toEnd("behind a Trunc", z(1, 3), trunc(z(1, 3))),
		toEnd("behind a copy", z(2, 2), piece(first), final(rest)),
		toEnd("behind a Diff", z(2, 2), diff(z(2, 1), at(z(2, 2)))),
		toEnd("behind a Trunc and a Diff", z(2, 2), trunc(z(1, 3)), diff(z(1, 3), at(z(2, 2)))),
		toEnd("behind a copy and a Diff", z(3, 1), piece(first), final(rest), diff(z(2, 2), rich(z(3, 1)))),
	}
}

// pieces are the two parts of the image of a tree whose Last is (2, 2).
func pieces() (first, rest []byte) {
	image := imageAt(z(2, 2))
	return image[:40], image[40:]
}

// someZxids are those of the follower's history, of what comes, and others between, below and above.
func someZxids() []api.Zxid {
	return []api.Zxid{z(0, 0), z(1, 1), z(1, 2), z(1, 3), z(1, 4), z(1, 5), z(1, 6), z(2, 1), z(2, 2), z(3, 1), z(3, 2), z(4, 1), z(api.LastEpoch, math.MaxUint32)}
}

// others are packets of the kinds that never fit, as near to one that would as they can be.
func others(x api.Zxid) []api.Packet {
	forward := at(z(0, 0))
	forward.From.Number = 1
	next := at(z(3, 9))
	info := put(api.Packet{Kind: api.PInfo, Epoch: 3})
	info.Lead, info.Place = api.Conn{}, 0
	return []api.Packet{
		info,
		put(api.Packet{Kind: api.PEpoch, Epoch: 3}),
		put(api.Packet{Kind: api.PAckEpoch, Epoch: 3, Current: 3, Zxid: x}),
		put(api.Packet{Kind: api.PAckLeader, Epoch: 3}),
		put(api.Packet{Kind: api.PUpToDate, Zxid: x}),
		put(api.Packet{Kind: api.PPropose, Prev: x, Txn: next}),
		put(api.Packet{Kind: api.PAck, Zxid: x}),
		put(api.Packet{Kind: api.PCommit, Zxid: x}),
		put(api.Packet{Kind: api.PForward, Txn: forward}),
		put(api.Packet{Kind: api.PPing, Session: 1}),
	}
}

// packets are some of every kind, at each zxid that matters.
func packets() []api.Packet {
	first, rest := pieces()
	out := []api.Packet{
		piece(first), piece(rest), piece([]byte{0}), piece(imageAt(z(2, 2))),
		final(first), final(rest), final([]byte{0}), final(imageAt(z(2, 2))), final(imageAt(z(0, 0))), final(rest[9:]),
	}
	for _, x := range someZxids() {
		out = append(out, trunc(x))
		for epoch := uint32(1); epoch <= 4; epoch++ {
			out = append(out, newLeader(epoch, x))
		}
		for _, y := range someZxids() {
			if above(y, x) {
				out = append(out, diff(x, at(y)))
			}
		}
	}
	return append(out, others(z(2, 1))...)
}

// TestEveryPacketEverywhere: at each place, each packet, by the chapter's words.
func TestEveryPacketEverywhere(t *testing.T) {
	fitted := map[int8]int{}
	for _, s := range standings() {
		for _, p := range packets() {
			if packet.Check(p) != api.OK {
				t.Fatalf("a packet of kind %d may not be", p.Kind)
			}
			if s.pupil(t).takes(t, s.what, p) {
				fitted[p.Kind]++
			}
		}
	}
	for _, kind := range []int8{api.PTrunc, api.PChunk, api.PDiff, api.PNewLeader} {
		if fitted[kind] < 4 {
			t.Errorf("kind %d fitted %d times alone", kind, fitted[kind])
		}
	}
}

// TestKinds: which of them fits where, written out: T is a Trunc, C and F Chunks, D a Diff, N a NewLeader.
func TestKinds(t *testing.T) {
	first, rest := pieces()
	for _, s := range standings() {
		u := s.pupil(t)
		for kind, p := range map[string]api.Packet{
			"T": trunc(z(1, 3)), "C": piece(first), "F": final(imageAt(z(2, 2))), "f": final(rest),
			"D": diff(u.last(), at(z(3, 9))), "N": newLeader(3, u.last()),
		} {
			want := map[string]string{
				"at first":       "TCFDN",
				"behind a Trunc": "DN", "behind a Trunc to the snapshot's": "DN", "behind a Trunc to the last": "DN", "behind a Trunc and a Diff": "DN",
				"behind a Chunk": "Cf", "behind two Chunks": "C",
				"behind Chunks that are no beginning of a tree's": "C", "behind Chunks that are a tree's, none of them final": "C",
				"behind a copy": "DN", "behind a copy of one piece": "DN", "behind a copy and a Diff": "DN",
				"behind a Diff": "DN", "behind two Diffs": "DN",
			}[s.what]
			whether := false
			for _, r := range want {
				whether = whether || string(r) == kind
			}
			if _, e := s.pupil(t).Take(p); (e == api.OK) != whether || !whether && e != api.ErrLearn {
				t.Errorf("P17.2: %s: %s: %d", s.what, kind, e)
			}
		}
	}
}

// TestOtherKinds: none of them ever fits, nor does a kind that is none.
func TestOtherKinds(t *testing.T) {
	for _, s := range standings() {
		u := s.pupil(t)
		for _, x := range someZxids()[1:10] {
			u.misfit(t, s.what, others(x)...)
		}
		for _, kind := range []int8{0, -1, 15, 16, 127, -128} {
			u.misfit(t, s.what, put(api.Packet{Kind: kind}), api.Packet{Kind: kind})
		}
	}
}

// spoilt are a packet that fits in all ways that make it one that may not be.
func spoilt(p api.Packet) []api.Packet {
	turns := []func(p *api.Packet){
		func(p *api.Packet) { p.Conn = api.Conn{} },
		func(p *api.Packet) { p.Conn.Boot = 0 },
		func(p *api.Packet) { p.Conn.Try = 0 },
		func(p *api.Packet) { p.Lead = api.Conn{} },
		func(p *api.Packet) { p.Lead.Boot = 0 },
		func(p *api.Packet) { p.Lead.Try = 0 },
		func(p *api.Packet) { p.Place = -1 },
		func(p *api.Packet) { p.Place = math.MinInt64 },
		func(p *api.Packet) { p.Counted = true },
		func(p *api.Packet) { p.Current = 1 },
		func(p *api.Packet) { p.Session = 1 },
		func(p *api.Packet) { p.Epoch++; p.Prev.N++; p.Zxid.N++ },
		func(p *api.Packet) { p.Final = !p.Final; p.Bytes = nil },
		func(p *api.Packet) { p.Bytes = append([]byte{}, make([]byte, 4097)...) },
		func(p *api.Packet) { p.Txn.From.Server = 7 },
		func(p *api.Packet) { p.Txn.Req.Timeout++ },
		func(p *api.Packet) { p.Txn.Req.Kind = api.GetData },
		func(p *api.Packet) { p.Kind += 32 },
	}
	var out []api.Packet
	for _, turn := range turns {
		q := p
		turn(&q)
		out = append(out, q)
	}
	return out
}

// TestRefusedByLayer15: at each place, what fits there but for one thing that may not be; and what fits is taken behind all of them.
func TestRefusedByLayer15(t *testing.T) {
	for _, s := range standings() {
		if s.pupil(t).done() {
			continue
		}
		n := 0
		for _, p := range packets() {
			u := s.pupil(t)
			if !u.fits(p) {
				continue
			}
			n++
			for _, q := range spoilt(p) {
				if packet.Check(q) != api.OK {
					u.misfit(t, s.what, q)
				} else {
					t.Fatalf("%s: a packet of kind %d may be: %+v", s.what, p.Kind, q)
				}
			}
			u.fit(t, s.what, p)
		}
		if n == 0 {
			t.Errorf("%s: nothing fits", s.what)
		}
	}
}

// TestWithoutNumbers: as layer 16 makes them: they may not be yet.
func TestWithoutNumbers(t *testing.T) {
	u := follower(t)
	for _, p := range packets() {
		p.Conn, p.Lead, p.Place = api.Conn{}, api.Conn{}, 0
		u.misfit(t, "without numbers", p)
	}
}

// TestNumbersAndPlaces: they are not looked at, but that they may be.
func TestNumbersAndPlaces(t *testing.T) {
	conns := []api.Conn{{Boot: 1, Try: 1}, {Boot: 9, Try: 4}, {Boot: 1, Try: math.MaxUint32}, {Boot: math.MaxUint32, Try: 1}}
	places := []int64{0, 7, 7, math.MaxInt64, 3, 0}
	for _, s := range standings() {
		for shift := range 6 {
			u := follower(t)
			for i, p := range s.led {
				p.Conn, p.Lead, p.Place = conns[(i+shift)%4], conns[(3*i+shift)%4], places[(i+shift)%6]
				u.fit(t, s.what+", with other numbers", p)
			}
			want, whether := s.pupil(t).Brought()
			if b, is := u.Brought(); is != whether || !sameBrought(b, want) {
				t.Errorf("P17.4: %s: numbers and places turn what is brought: %+v", s.what, b)
			}
		}
	}
}

// TestNothingHasChanged: behind one that does not fit, of every kind, another one is answered as if it had not come. (What it tells, takes looks at.)
func TestNothingHasChanged(t *testing.T) {
	all := packets()
	for _, s := range standings() {
		for i := range all {
			bad := all[i]
			if follower(t).fit(t, s.what, s.led...).fits(bad) {
				continue
			}
			u := s.pupil(t).misfit(t, s.what, bad)
			for j := 0; j < len(all); j++ {
				if p := all[(i+j)%len(all)]; !u.takes(t, s.what+", behind one that does not fit", p) {
					continue
				}
				u = s.pupil(t).misfit(t, s.what, bad)
				j += 3 // not all of them, for the time it takes; the beginning is another one each time
			}
		}
	}
}

// TestTruncs: the snapshot's zxid and each of the log's; none between, above or below.
func TestTruncs(t *testing.T) {
	for _, c := range []struct {
		at  api.Zxid
		fit bool
	}{
		{z(1, 2), true}, {z(1, 3), true}, {z(1, 5), true}, {z(2, 1), true},
		{z(0, 0), false}, {z(1, 1), false}, {z(1, 4), false}, {z(1, 6), false}, {z(2, 2), false}, {z(2, 3), false}, {z(3, 1), false}, {z(3, 2), false},
		{z(api.LastEpoch, math.MaxUint32), false}, {z(1, math.MaxUint32), false},
	} {
		u := follower(t)
		if !c.fit {
			u.misfit(t, "a Trunc", trunc(c.at))
			u.fit(t, "another one behind it", trunc(z(1, 5)))
			continue
		}
		u.fit(t, "a Trunc", trunc(c.at))
		for _, x := range someZxids() {
			u.misfit(t, "a second Trunc", trunc(x))
		}
		u.fit(t, "a Diff behind it", diff(c.at, at(z(3, 1))), newLeader(3, z(3, 1)))
		u.brings(t, "a Trunc", api.Brought{Epoch: 3, Cut: c.at, Txns: []api.Txn{at(z(3, 1))}})
	}
}

// TestTruncWithoutLog: the snapshot's zxid alone stands there; zero does where there is no snapshot.
func TestTruncWithoutLog(t *testing.T) {
	for _, x := range []api.Zxid{z(0, 0), z(1, 2), z(3, 1)} {
		u := begun(t, 3, x, nil)
		for _, y := range someZxids() {
			if y != x {
				u.misfit(t, "no log", trunc(y))
			}
		}
		u.fit(t, "no log", trunc(x), newLeader(3, x))
	}
}

// TestLongHistory: each of many zxids is found, none beside them.
func TestLongHistory(t *testing.T) {
	var log []api.Txn
	for i := range uint32(300) {
		log = append(log, at(z(1+i/100, 2+2*(i%100))))
	}
	for i, x := range log {
		u := begun(t, 3, z(1, 1), log)
		beside := x.Zxid
		beside.N++
		u.misfit(t, "beside", trunc(beside))
		u.fit(t, "each", trunc(log[i].Zxid), newLeader(3, log[i].Zxid))
	}
}

// TestDiffs: at each place where one may come: its Prev, its zxid, its epoch.
func TestDiffs(t *testing.T) {
	for _, s := range standings() {
		u := s.pupil(t)
		if u.done() || !u.ended() {
			continue
		}
		last := u.last()
		for _, prev := range someZxids() {
			for _, x := range someZxids() {
				if prev != last || !above(x, last) || x.Epoch > 3 {
					u.misfit(t, s.what, diff(prev, at(x)))
				} else {
					s.pupil(t).fit(t, s.what, diff(prev, at(x)))
				}
			}
		}
		u.misfit(t, s.what+", at the last", diff(last, at(last)))
		u.misfit(t, s.what+", above the epoch", diff(last, at(z(4, 1))), diff(last, at(z(api.LastEpoch, 9))))
		if last.Epoch < 3 {
			s.pupil(t).fit(t, s.what+", below the epoch", diff(last, at(z(last.Epoch, last.N+9))))
		}
		u.fit(t, s.what+", at the epoch", diff(last, at(z(3, 9))))
		u.misfit(t, s.what+", the same once more", diff(last, at(z(3, 9))), diff(last, at(z(3, 10))))
		u.fit(t, s.what+", right behind", diff(z(3, 9), at(z(3, 10))))
		u.fit(t, s.what+", with a gap, to the end", diff(z(3, 10), at(z(3, math.MaxUint32))))
		u.fit(t, s.what, newLeader(3, z(3, math.MaxUint32)))
	}
}

// TestManyDiffs: all of them stand there, in their order.
func TestManyDiffs(t *testing.T) {
	u := follower(t)
	ahead := z(2, 1)
	for i := range uint32(400) {
		next := rich(z(3, 1+i))
		if done, e := u.Take(diff(ahead, next)); done || e != api.OK {
			t.Fatalf("P17.2: diff %d: %v, %d", i, done, e)
		}
		u.took = append(u.took, diff(ahead, next))
		ahead = next.Zxid
	}
	u.fit(t, "many diffs", newLeader(3, ahead))
	if b, _ := u.Brought(); len(b.Txns) != 400 {
		t.Errorf("P17.4: %d transactions", len(b.Txns))
	}
}

// TestNewLeaders: at each place where it may come: its Epoch, its Zxid.
func TestNewLeaders(t *testing.T) {
	for _, s := range standings() {
		u := s.pupil(t)
		if u.done() {
			continue
		}
		for _, epoch := range []uint32{0, 1, 2, 4, 5, api.LastEpoch, 1 << 31} {
			u.misfit(t, s.what+", another epoch", newLeader(epoch, u.last()))
		}
		for _, x := range someZxids() {
			if x != u.last() {
				u.misfit(t, s.what+", another zxid", newLeader(3, x))
			}
		}
		if u.ended() {
			u.fit(t, s.what, newLeader(3, u.last()))
		} else {
			u.misfit(t, s.what+", Chunks that have not ended", newLeader(3, u.last()), newLeader(3, z(2, 2)))
		}
	}
}
