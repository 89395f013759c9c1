package peer

import (
	"math"

	"lagoon/api"
	"lagoon/packet"
	"lagoon/txn"
)

// inputs are what is done with each kind of inputs.
func inputs() [api.InGiveUp + 1]func(s *Server, in api.Input) api.Errno {
	return [...]func(s *Server, in api.Input) api.Errno{
		api.InFollow: (*Server).becomes,
		api.InPacket: (*Server).hears,
		api.InWrite:  (*Server).writes,
		api.InPing:   (*Server).pings,
		api.InSnap:   (*Server).snaps,
		api.InTick:   (*Server).ticks,
		api.InGiveUp: (*Server).toldToGiveUp,
	}
}

// isInput tells whether all that the kind names is right, and nothing else is there.
func (s *Server) isInput(in api.Input) bool {
	rest, right := in, true
	switch in.Kind {
	case api.InFollow:
		right, rest.Other = isServer(s.system, in.Other), 0
	case api.InPacket:
		right, rest.Other, rest.Bytes = isServer(s.system, in.Other), 0, nil
	case api.InWrite:
		rest.Req = api.Request{}
	case api.InPing:
		right, rest.Session = in.Session >= 1, 0
	case api.InSnap, api.InTick, api.InGiveUp:
	default:
		return false
	}
	return right && rest.Other == 0 && len(rest.Bytes) == 0 && rest.Session == 0 && txn.Same(api.Txn{Req: rest.Req}, api.Txn{})
}

func (s *Server) becomes(in api.Input) api.Errno {
	if in.Other == s.me && !s.system.Counts(s.me) {
		return api.ErrServer
	}
	if s.try == math.MaxUint32 {
		return api.ErrSpent
	}
	s.giveUp()
	s.try++
	number := api.Conn{Boot: s.store.Durable().Boot, Try: s.try}
	if in.Other == s.me {
		s.lead(number)
	} else {
		s.follow(in.Other, number)
	}
	return api.OK
}

func (s *Server) hears(in api.Input) api.Errno {
	p, e := packet.Read(in.Bytes)
	if e != api.OK {
		return api.OK // it is dropped
	}
	switch s.state {
	case api.Leading:
		s.hearsFollower(in.Other, p)
	case api.Following:
		s.hearsLeader(in.Other, p)
	}
	return api.OK
}

func (s *Server) writes(in api.Input) api.Errno {
	if txn.Check(api.Txn{Req: in.Req}) != api.OK {
		return api.ErrTxn
	}
	if !s.serves() {
		return api.ErrLooking
	}
	s.number++
	s.waiting = append(s.waiting, s.number)
	if s.state == api.Leading {
		s.propose(s.origin(s.number), in.Req)
	} else {
		s.sendLeader(api.Packet{Kind: api.PForward, Txn: api.Txn{From: s.origin(s.number), Req: in.Req}})
	}
	return api.OK
}

func (s *Server) pings(in api.Input) api.Errno {
	if !s.serves() {
		return api.ErrLooking
	}
	if s.state == api.Leading {
		s.clock.Touch(in.Session)
	} else {
		s.sendLeader(api.Packet{Kind: api.PPing, Session: in.Session})
	}
	return api.OK
}

func (s *Server) snaps(api.Input) api.Errno {
	if !s.serves() {
		return api.ErrLooking
	}
	s.keep(s.store.Snapshot(s.tree))
	return api.OK
}

// ticks lets the clock go on, if there is one. (Where a proposal gives up the step is left: those that are over behind it are told by nobody.)
func (s *Server) ticks(api.Input) api.Errno {
	for _, id := range s.clock.Tick() {
		s.tell(api.Fact{Kind: api.FactExpired, Session: id})
		s.propose(s.origin(0), api.Request{Kind: api.Close, Session: id})
	}
	return api.OK
}

func (s *Server) toldToGiveUp(api.Input) api.Errno {
	s.giveUp()
	return api.OK
}
