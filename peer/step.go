package peer

import (
	"slices"

	"lagoon/api"
	"lagoon/txn"
)

// end is what a step that ends deep inside is left with.
type end struct{}

// begin tells what keeps a step, or an Ask, from beginning: one that finds no power finds the server down for good.
func (s *Server) begin() api.Errno {
	if s.isNone() {
		return api.ErrArg
	}
	if !s.Up() {
		s.goDown()
		return api.ErrDown
	}
	return api.OK
}

// goDown leaves nothing but that it is one that Start made.
func (s *Server) goDown() { *s = Server{disk: s.disk} }

// settle is what a step comes to, now that it is known whether the disk still has power: what was told stays told, but nothing is sent by one that has none.
func (s *Server) settle(e api.Errno) (api.Output, api.Errno) {
	out := s.step
	s.step = api.Output{}
	if !s.disk.On() {
		s.goDown()
		return api.Output{Facts: out.Facts}, api.ErrDown
	}
	return out, e
}

func (s *Server) tell(f api.Fact) {
	f.Server = s.me
	s.step.Facts = append(s.step.Facts, f)
}

// history is a fact of the whole history as it is now.
func (s *Server) history(f api.Fact) api.Fact {
	now := s.store.Durable()
	f.Zxid, f.Snap, f.Log = now.Last, now.Snap, s.store.Log()
	return f
}

// keep takes the store's answer to a change. One that was refused ends the step; the server gives up then, but where the power went (the answer may be another error, of a write ahead of that).
func (s *Server) keep(e api.Errno) {
	if e == api.OK {
		return
	}
	if s.disk.On() {
		s.giveUp()
	}
	panic(end{})
}

// leave ends the step with giving up.
func (s *Server) leave() {
	s.giveUp()
	panic(end{})
}

func (s *Server) leaveIf(so bool) {
	if so {
		s.leave()
	}
}

// giveUp makes it look, if it does not.
func (s *Server) giveUp() {
	if s.state == api.Looking {
		return
	}
	s.state, s.leading, s.following = api.Looking, leading{}, following{}
	s.tell(api.Fact{Kind: api.FactGaveUp})
	for _, n := range s.waiting {
		s.tell(api.Fact{Kind: api.FactAnswered, Number: n, Result: api.Result{Err: api.ErrLooking}})
	}
	s.waiting = nil
	for _, w := range s.watches.Clear() {
		s.tell(api.Fact{Kind: api.FactLost, Fired: api.Fired{Watch: w}})
	}
}

// deliver gives the tree what its log has, up to z.
func (s *Server) deliver(z api.Zxid) {
	for _, t := range s.store.Log() {
		if above(t.Zxid, s.tree.Last()) && !above(t.Zxid, z) {
			s.apply(t)
		}
	}
}

func (s *Server) apply(t api.Txn) {
	result, changes := s.tree.Apply(t)
	s.tell(api.Fact{Kind: api.FactDelivered, Txn: t, Result: result})
	for _, c := range changes {
		for _, f := range s.watches.Fire(c) {
			s.tell(api.Fact{Kind: api.FactFired, Fired: f})
		}
	}
	s.answer(t.From, result)
	if result.Err == api.OK {
		s.count(t.Req, result.Session)
	}
}

// answer tells a client, if its write waits here.
func (s *Server) answer(from api.Origin, result api.Result) {
	i, waits := slices.BinarySearch(s.waiting, from.Number)
	if !waits || from != s.origin(from.Number) {
		return
	}
	s.waiting = slices.Delete(s.waiting, i, i+1)
	s.tell(api.Fact{Kind: api.FactAnswered, Number: from.Number, Result: copied(result)})
}

// count keeps the sessions of the clock, if there is one, those of the tree.
func (s *Server) count(r api.Request, opened int64) {
	switch r.Kind {
	case api.Open:
		s.clock.Add(opened, r.Timeout)
	case api.Close:
		s.clock.Remove(r.Session)
	}
}

// origin is where one of its writes comes from.
func (s *Server) origin(number int64) api.Origin {
	return api.Origin{Server: s.me, Boot: s.store.Durable().Boot, Number: number}
}

// copied is the same result in memory of its own.
func copied(r api.Result) api.Result {
	r.Data, r.Acl, r.Names, r.Results = slices.Clone(r.Data), slices.Clone(r.Acl), slices.Clone(r.Names), slices.Clone(r.Results)
	for i, one := range r.Results {
		r.Results[i] = copied(one)
	}
	return r
}

// above tells whether a is above b.
func above(a, b api.Zxid) bool { return txn.Compare(a, b) > 0 }

// behind are the transactions of a log that are above z.
func behind(z api.Zxid, log []api.Txn) []api.Txn {
	for i, t := range log {
		if above(t.Zxid, z) {
			return log[i:]
		}
	}
	return nil
}
