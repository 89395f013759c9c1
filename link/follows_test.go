package link_test

import (
	"bytes"
	"math/rand/v2"
	"slices"
	"testing"

	"lagoon/api"
	"lagoon/packet"
)

// some gives calls by chance, most of them such as may be.
type some struct{ *rand.Rand }

func chance(seed uint64) some { return some{rand.New(rand.NewPCG(22, seed))} }

func (s some) server(servers int) int8 {
	if s.IntN(30) == 0 {
		return int8(s.IntN(256) - 128)
	}
	return int8(s.IntN(servers))
}

func (s some) place(many int) int {
	if s.IntN(30) == 0 {
		return noPlaces[s.IntN(len(noPlaces))]
	}
	return s.IntN(many + 1)
}

func (s some) text() string {
	b := make([]byte, s.IntN(1+s.IntN(20)))
	for i := range b {
		b[i] = byte(s.IntN(256))
	}
	return string(b)
}

// step does one call by chance, and holds what it answers against the model.
func (s some) step(t *testing.T, p *pair, sends int) api.Errno {
	t.Helper()
	m := p.list
	many := len(m.all)
	var want api.Errno
	switch n := s.IntN(100); {
	case n < sends:
		from, to, text := s.server(p.servers), s.server(p.servers), s.text()
		want = m.send(from, to, text)
		p.sends(t, from, to, text, want)
	case n < 60:
		place := s.place(many)
		_, want = m.take(place)
		taken := p.takes(t, place, want)
		wipe(taken.Bytes)
	case n < 75:
		place := s.place(many)
		want = m.double(place)
		p.doubles(t, place, want)
	default:
		place, at, xor := s.place(many), s.place(8), byte(s.IntN(256)*s.IntN(9))
		want = m.spoil(place, at, xor)
		p.spoils(t, place, at, xor, want)
	}
	return want
}

// TestByChance holds nets against the chapter's words over long ways, on which they fill and are empty several times.
func TestByChance(t *testing.T) {
	s := chance(1)
	met := map[api.Errno]int{}
	longest, empty := 0, 0
	for round := range 60 {
		p := begun(t, 1+round%7)
		for turn := range 300 {
			sends := 50
			if turn/60%2 == 1 {
				sends = 15
			}
			met[s.step(t, p, sends)]++
			longest = max(longest, len(p.all))
			if len(p.all) == 0 && turn > 60 && p.servers > 1 {
				empty++
			}
			if t.Failed() {
				return
			}
		}
	}
	if met[api.OK] < 1000 || met[api.ErrArg] < 100 || met[api.ErrLink] < 100 || longest < 10 || empty == 0 {
		t.Errorf("the ways are no good: %v; the longest had %d, %d times there was nothing", met, longest, empty)
	}
}

// TestTwiceTheSame: two nets that are told the same answer the same.
func TestTwiceTheSame(t *testing.T) {
	one, two := begun(t, 5), begun(t, 5)
	a, b := chance(2), chance(2)
	for range 500 {
		if x, y := a.step(t, one, 40), b.step(t, two, 40); x != y || !slices.Equal(seenAll(one.n.All()), seenAll(two.n.All())) {
			t.Fatalf("R6: %d and %d, %v and %v", x, y, seenAll(one.n.All()), seenAll(two.n.All()))
		}
	}
}

// TestTakenWasSent: each message has a number of its own in its bytes. What Take answers was sent, from that server to that one, at most once more often than it was doubled; one that is not spoilt byte for byte, of one that is a single byte is another one.
func TestTakenWasSent(t *testing.T) {
	s := chance(3)
	for range 40 {
		p := begun(t, 7)
		var was []sent
		room := map[int]int{} // by number: how often it may still arrive
		arrives := func(place int) {
			m, e := p.n.Take(place)
			if e != api.OK {
				return
			}
			number := numberOf(m, was)
			room[number]--
			if number < 0 || room[number] < 0 || m.Spoilt == (string(m.Bytes) == was[number].text) {
				t.Fatalf("what arrives was not sent so: %v", seen(m))
			}
		}
		for range 200 {
			switch place := s.place(p.n.Len()); s.IntN(4) {
			case 0:
				m := of(int8(s.IntN(7)), int8(s.IntN(7)), stamped(len(was)))
				if p.n.Send(m.from, m.to, []byte(m.text)) == api.OK {
					room[len(was)]++
					was = append(was, m)
				}
			case 1:
				if l := p.n.All(); p.n.Double(place) == api.OK {
					room[numberOf(l[place], was)]++
				}
			case 2:
				p.n.Spoil(place, s.IntN(12), byte(s.IntN(256)))
			default:
				arrives(place)
			}
		}
		for p.n.Len() > 0 {
			arrives(0)
		}
		for number, left := range room {
			if left != 0 {
				t.Errorf("of %d, %d have not arrived", number, left)
			}
		}
	}
}

// stamped is a text in which a number stands three times, so that one byte that is turned does not hide it.
func stamped(number int) string {
	return string(bytes.Repeat([]byte{byte(number), byte(number >> 8)}, 3))
}

// numberOf finds the message that was sent from that server to that one with these bytes, or with all but one of them; below 0: there is none.
func numberOf(m api.Message, was []sent) int {
	return slices.IndexFunc(was, func(w sent) bool {
		if w.from != m.From || w.to != m.To || len(w.text) != len(m.Bytes) {
			return false
		}
		others := 0
		for i, b := range m.Bytes {
			if b != w.text[i] {
				others++
			}
		}
		return others <= 1
	})
}

// TestDropLeavesTheOthers: but for their places, at each place.
func TestDropLeavesTheOthers(t *testing.T) {
	s := chance(4)
	for range 100 {
		p := begun(t, 7)
		for range 30 {
			s.step(t, p, 60)
		}
		ahead := seenAll(p.n.All())
		for len(ahead) > 0 {
			place := s.IntN(len(ahead))
			p.n.Take(place)
			ahead = slices.Delete(ahead, place, place+1)
			if got := seenAll(p.n.All()); !slices.Equal(got, ahead) {
				t.Fatalf("Take(%d) leaves %v, not %v", place, got, ahead)
			}
		}
	}
}

// packets are of several kinds and lengths.
func packets() []api.Packet {
	c, z := api.Conn{Boot: 3, Try: 1}, api.Zxid{Epoch: 1, N: 2}
	made := api.Txn{Zxid: z, Req: api.Request{Kind: api.Create, Path: "/a", Data: []byte{0, 7, 255}}}
	return []api.Packet{
		{Kind: api.PInfo, Conn: c, Epoch: 2},
		{Kind: api.PAck, Conn: c, Lead: c, Place: 4, Zxid: z},
		{Kind: api.PAckEpoch, Conn: c, Lead: c, Place: 1, Epoch: 3, Current: 2, Zxid: z, Counted: true},
		{Kind: api.PPropose, Conn: c, Lead: c, Place: 300, Txn: made},
		{Kind: api.PChunk, Conn: c, Lead: c, Place: 1, Final: true, Bytes: bytes.Repeat([]byte{0, 255, 1}, 40)},
	}
}

// TestSpoiltIsNoPacket: a packet's bytes with any byte turned are read as none, while copies that were made ahead of it, and the one that they were made of, are.
func TestSpoiltIsNoPacket(t *testing.T) {
	for _, sent := range packets() {
		b, e := packet.Write(sent)
		if e != api.OK {
			t.Fatalf("packet.Write of kind %d = %d", sent.Kind, e)
		}
		for at := range b {
			for bit := range 8 {
				p := begun(t, 2)
				p.n.Send(1, 0, b)
				p.n.Double(0)
				p.n.Double(0)
				p.n.Spoil(1, at, 1<<bit)
				p.n.Double(1)
				for place, spoilt := range []bool{false, true, false, true} {
					m, e := p.n.Take(0)
					got, fault := packet.Read(m.Bytes)
					if e != api.OK || m.Spoilt != spoilt || (fault != api.OK) != spoilt || (got.Kind == sent.Kind) == spoilt {
						t.Fatalf("a packet of kind %d, its byte %d turned: at %d: %d, spoilt %v, read: %d", sent.Kind, at, place, e, m.Spoilt, fault)
					}
					if !spoilt && !bytes.Equal(m.Bytes, b) {
						t.Fatalf("a packet of kind %d has become % x", sent.Kind, m.Bytes)
					}
				}
			}
		}
	}
}
