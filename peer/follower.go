package peer

import (
	"lagoon/api"
	"lagoon/learn"
	"lagoon/packet"
)

// Where a follower stands.
const (
	asking    int8 = 1 // it waits for Epoch
	gathering int8 = 2 // it gathers what brings it up
	agreed    int8 = 3 // it has acknowledged the leadership
	serving   int8 = 4 // it is up
)

// following is what a server is as a follower.
type following struct {
	whom        int8
	conn        api.Conn
	led         api.Conn // the leader's leadership, once it is known
	at          int8     // where it stands
	taken, sent int64    // how many packets of the connection: the next places
	learner     *learn.Learner
}

// fromLeader is a kind of packets that a follower waits for: where it must stand, as bits, and what is done.
type fromLeader struct {
	at   uint8
	take func(s *Server, p api.Packet)
}

// fromLeaders are what a follower does with each kind of packets; one that has no place is none that it waits for.
func fromLeaders() [api.PPing + 1]fromLeader {
	return [...]fromLeader{
		api.PEpoch:     {bit(asking), (*Server).takeEpoch},
		api.PTrunc:     {bit(gathering), (*Server).takePart},
		api.PDiff:      {bit(gathering), (*Server).takePart},
		api.PChunk:     {bit(gathering), (*Server).takePart},
		api.PNewLeader: {bit(gathering), (*Server).takePart},
		api.PPropose:   {bit(agreed) | bit(serving), (*Server).takePropose},
		api.PUpToDate:  {bit(agreed), (*Server).takeUpToDate},
		api.PCommit:    {bit(serving), (*Server).takeCommit},
		api.PPing:      {},
	}
}

func (s *Server) follow(whom int8, conn api.Conn) {
	s.state, s.following = api.Following, following{whom: whom, conn: conn, at: asking}
	s.sendLeader(api.Packet{Kind: api.PInfo, Epoch: s.store.Durable().Accepted})
}

// hearsLeader takes its leader's packet as a follower, or drops it; another server's, too.
func (s *Server) hearsLeader(from int8, p api.Packet) {
	kind := fromLeaders()[p.Kind]
	waits := kind.at&bit(s.at) != 0 && (s.at == asking || p.Lead == s.led)
	if !waits || from != s.whom || p.Conn != s.conn || p.Place != s.taken {
		return
	}
	s.taken++
	kind.take(s, p)
}

func (s *Server) takeEpoch(p api.Packet) {
	s.led = p.Lead
	accepted := s.store.Durable().Accepted
	s.leaveIf(p.Epoch < accepted)
	if p.Epoch > accepted {
		s.keep(s.store.Accept(p.Epoch))
	}
	now := s.store.Durable()
	s.sendLeader(api.Packet{Kind: api.PAckEpoch, Epoch: p.Epoch, Current: now.Current, Zxid: now.Last, Counted: p.Epoch > accepted})
	s.learner, _ = learn.New(now.Accepted, now.Snap, s.store.Log())
	s.at = gathering
}

// takePart gathers what brings it up, and takes it, when all is there.
func (s *Server) takePart(p api.Packet) {
	done, e := s.learner.Take(p)
	s.leaveIf(e != api.OK)
	if done {
		s.takeAll(p.Epoch)
	}
}

// takeAll has the leader's history from now on. Its tree, and what it has delivered, stay, but where a whole copy is ahead of that.
func (s *Server) takeAll(epoch uint32) {
	b, _ := s.learner.Brought()
	s.keep(s.store.Take(b))
	s.learner, s.at = nil, agreed
	took := s.history(api.Fact{Kind: api.FactTook, Other: s.whom, Epoch: epoch})
	s.tell(took)
	if b.Whole && above(took.Snap, s.tree.Last()) {
		s.tree, s.committed = s.store.Tree(), took.Snap
	}
	s.sendLeader(api.Packet{Kind: api.PAckLeader, Epoch: epoch})
}

func (s *Server) takePropose(p api.Packet) {
	s.leaveIf(p.Prev != s.store.Durable().Last)
	s.keep(s.store.Append(p.Txn))
	s.sendLeader(api.Packet{Kind: api.PAck, Zxid: p.Txn.Zxid})
}

func (s *Server) takeUpToDate(p api.Packet) {
	s.takeCommit(p)
	s.tell(api.Fact{Kind: api.FactUp, Other: s.whom, Epoch: s.store.Durable().Current, Zxid: s.tree.Last()})
	s.at = serving
}

func (s *Server) takeCommit(p api.Packet) {
	s.leaveIf(above(p.Zxid, s.store.Durable().Last))
	if above(p.Zxid, s.committed) {
		s.committed = p.Zxid
	}
	s.deliver(s.committed)
}

// sendLeader sends as a follower. An Info bears the connection's number alone: no leadership is known then.
func (s *Server) sendLeader(p api.Packet) {
	p.Conn, p.Lead, p.Place = s.conn, s.led, s.sent
	s.sent++
	s.send(s.whom, p)
}

// send sends a packet, which may be, as all are that a server makes.
func (s *Server) send(to int8, p api.Packet) {
	b, _ := packet.Write(p)
	s.step.Sends = append(s.step.Sends, api.Send{To: to, Bytes: b})
}
