package peer

import "lagoon/api"

// fromFollower is a kind of packets that a leader waits for: where the server must stand, as bits, and what is done.
type fromFollower struct {
	stands uint8
	take   func(s *Server, from int8, p api.Packet)
}

// fromFollowers are what a leader does with each kind of packets; one that has no place is none that it waits for.
func fromFollowers() [api.PPing + 1]fromFollower {
	return [...]fromFollower{
		api.PAckEpoch:  {bit(known), (*Server).takeAckEpoch},
		api.PAckLeader: {bit(broughtUp), (*Server).takeAckLeader},
		api.PAck:       {bit(acknowledged) | bit(up), (*Server).takeAck},
		api.PForward:   {bit(up), (*Server).takeForward},
		api.PPing:      {bit(up), (*Server).takePing},
	}
}

// hearsFollower takes another server's packet as a leader, or drops it.
func (s *Server) hearsFollower(from int8, p api.Packet) {
	if from == s.me {
		return
	}
	if p.Kind == api.PInfo {
		s.takeInfo(from, p)
		return
	}
	o, kind := &s.others[from], fromFollowers()[p.Kind]
	waits := s.epoch != 0 && kind.stands&bit(o.stands) != 0
	if !waits || p.Conn != o.conn || p.Lead != s.leadership || p.Place != o.taken {
		return
	}
	o.taken++
	kind.take(s, from, p)
}

// takeInfo begins a connection, if it is above those that the server had.
func (s *Server) takeInfo(from int8, p api.Packet) {
	o := &s.others[from]
	if !isLater(p.Conn, o.conn) {
		return
	}
	*o = other{stands: known, conn: p.Conn, told: p.Epoch, taken: 1}
	if s.epoch == 0 {
		s.discover()
	} else {
		s.sendTo(from, api.Packet{Kind: api.PEpoch, Epoch: s.epoch})
	}
}

func (s *Server) takeAckEpoch(from int8, p api.Packet) {
	if p.Epoch != s.epoch {
		return
	}
	o := &s.others[from]
	o.stands, o.last = answered, p.Zxid
	if p.Counted {
		s.takePromise(from, promise{p.Current, p.Zxid})
	}
	if s.isInitial {
		s.bringUp(from)
	} else {
		s.settleHistory()
	}
}

// takePromise keeps of all promises just what is asked of them: who gave one, and whether one is above its own.
func (s *Server) takePromise(from int8, p promise) {
	s.promised |= bit(from)
	if p.isAbove(s.best) {
		s.best = p
	}
}

func (s *Server) takeAckLeader(from int8, p api.Packet) {
	if p.Epoch != s.epoch {
		return
	}
	o := &s.others[from]
	o.stands = acknowledged
	s.acked |= bit(from)
	s.acks.Put(from, o.last)
	s.establish()
}

func (s *Server) takeAck(from int8, p api.Packet) {
	if above(p.Zxid, s.store.Durable().Last) {
		return
	}
	s.acks.Put(from, p.Zxid)
	s.commit()
}

func (s *Server) takeForward(_ int8, p api.Packet) { s.propose(p.Txn.From, p.Txn.Req) }

func (s *Server) takePing(_ int8, p api.Packet) { s.clock.Touch(p.Session) }

// isLater tells whether a connection's number is above another one's.
func isLater(a, b api.Conn) bool {
	return a.Boot > b.Boot || a.Boot == b.Boot && a.Try > b.Try
}
