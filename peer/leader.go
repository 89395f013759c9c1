package peer

import (
	"lagoon/api"
	"lagoon/choose"
	"lagoon/quorum"
	"lagoon/session"
	"lagoon/snap"
	"lagoon/stream"
	"lagoon/txn"
)

// span is the number of ticks at whose multiples sessions end.
const span = 4

// Where another server stands with its leader.
const (
	known        int8 = 1 // its Info came
	answered     int8 = 2 // its AckEpoch
	broughtUp    int8 = 3 // it was sent all, up to a NewLeader
	acknowledged int8 = 4 // its AckLeader came
	up           int8 = 5 // it was sent its UpToDate
)

// leading is what a server is as a leader.
type leading struct {
	leadership api.Conn
	epoch      uint32  // 0: not known yet
	promised   uint8   // who has, as bits: itself too, from when the epoch is known
	best       promise // of all that came, on whichever connections
	isInitial  bool    // its history
	acked      uint8   // who has acknowledged the leadership, as bits
	acks       *quorum.Acks
	counter    uint32         // of the last transaction that it proposed
	clock      *session.Clock // none: it is not established
	others     [api.MaxServers]other
}

// other is what a leader knows of a server.
type other struct {
	stands      int8 // 0: not known
	conn        api.Conn
	told        uint32   // its accepted epoch
	taken, sent int64    // how many packets of the connection: the next places
	last        api.Zxid // that it told; from when it was brought up that of its H
}

// promise is what a server told of its history with it.
type promise struct {
	current uint32
	last    api.Zxid
}

func (p promise) isAbove(q promise) bool {
	return p.current > q.current || p.current == q.current && above(p.last, q.last)
}

// bit is a set of one number.
func bit(n int8) uint8 { return 1 << n }

func (s *Server) isEstablished() bool { return s.clock != nil }

func (s *Server) lead(leadership api.Conn) {
	acks, _ := quorum.NewAcks(s.system)
	s.state, s.leading = api.Leading, leading{leadership: leadership, acks: acks}
	s.discover()
}

// discover finds the epoch, when a quorum is known.
func (s *Server) discover() {
	servers, greatest := bit(s.me), s.store.Durable().Accepted
	for n, o := range s.others {
		if o.stands != 0 {
			servers |= bit(int8(n))
			greatest = max(greatest, o.told)
		}
	}
	if !s.system.Has(servers) {
		return
	}
	s.leaveIf(greatest >= s.config.LastEpoch)
	s.keep(s.store.Accept(greatest + 1))
	s.epoch, s.promised = greatest+1, bit(s.me)
	s.sendAll(bit(known), api.Packet{Kind: api.PEpoch, Epoch: s.epoch})
	s.settleHistory()
}

// settleHistory makes its history the initial one, when a quorum has promised, of which nobody's is above it.
func (s *Server) settleHistory() {
	if s.isInitial || !s.system.Has(s.promised) {
		return
	}
	now := s.store.Durable()
	s.leaveIf(s.best.isAbove(promise{now.Current, now.Last}))
	s.keep(s.store.Lead(s.epoch))
	s.isInitial = true
	s.tell(s.history(api.Fact{Kind: api.FactInitial, Epoch: s.epoch}))
	s.acked = bit(s.me)
	s.acks.Put(s.me, now.Last)
	for n, o := range s.others {
		if o.stands == answered {
			s.bringUp(int8(n))
		}
	}
	s.establish()
}

// bringUp sends a server what it needs to have the history as it is now.
func (s *Server) bringUp(to int8) {
	o := &s.others[to]
	now := s.history(api.Fact{Kind: api.FactFixed, Other: to, Epoch: s.epoch})
	image := snap.Write(s.tree)
	way, _ := choose.Way(o.last, now.Snap, now.Log, min(s.config.Cache, len(now.Log)), len(image), s.config.Factor)
	if way.Way == api.BySnap {
		way.From = s.tree.Last()
	} else {
		image = nil
	}
	now.Way = way.Way
	s.tell(now)
	packets, _ := stream.Make(way, image, behind(way.From, now.Log), s.epoch, s.config.Chunk) // of a history that no leader's packets made: none
	for _, p := range packets {
		s.sendTo(to, p)
	}
	o.stands, o.last = broughtUp, now.Zxid
}

// establish begins to serve, when a quorum has acknowledged the leadership, and commits.
func (s *Server) establish() {
	if !s.isEstablished() && s.system.Has(s.acked) {
		s.tell(api.Fact{Kind: api.FactEstablished, Epoch: s.epoch})
		s.clock, _ = session.New(span)
		for _, x := range s.tree.Sessions() {
			s.clock.Add(x.Id, x.Timeout)
		}
	}
	s.commit()
}

// commit commits what a quorum has, and tells those that are up, and those that are to be.
func (s *Server) commit() {
	if !s.isEstablished() {
		return
	}
	if z, _ := s.acks.Committed(); above(z, s.committed) {
		s.committed = z
		s.deliver(z)
		s.sendAll(bit(up), api.Packet{Kind: api.PCommit, Zxid: z})
	}
	for n := range s.others {
		if o := &s.others[n]; o.stands == acknowledged && !above(o.last, s.committed) {
			s.sendTo(int8(n), api.Packet{Kind: api.PUpToDate, Zxid: s.committed})
			o.stands = up
		}
	}
}

// propose makes a request a transaction.
func (s *Server) propose(from api.Origin, r api.Request) {
	z, e := txn.Next(api.Zxid{Epoch: s.epoch, N: s.counter}, s.config.LastCounter)
	s.leaveIf(e != api.OK)
	prev := s.store.Durable().Last
	t := txn.Clone(api.Txn{Zxid: z, From: from, Req: r})
	s.tell(api.Fact{Kind: api.FactProposed, Txn: t})
	s.keep(s.store.Append(t))
	s.counter = z.N
	s.acks.Put(s.me, z)
	if r.Session != 0 {
		s.clock.Touch(r.Session)
	}
	s.sendAll(bit(broughtUp)|bit(acknowledged)|bit(up), api.Packet{Kind: api.PPropose, Prev: prev, Txn: t})
	s.commit()
}

// sendAll sends to all that stand at one of these places, rising.
func (s *Server) sendAll(at uint8, p api.Packet) {
	for n, o := range s.others {
		if at&bit(o.stands) != 0 {
			s.sendTo(int8(n), p)
		}
	}
}

// sendTo sends as a leader.
func (s *Server) sendTo(to int8, p api.Packet) {
	o := &s.others[to]
	p.Conn, p.Lead, p.Place = o.conn, s.leadership, o.sent
	o.sent++
	s.send(to, p)
}
