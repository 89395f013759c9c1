package quorum

import (
	"lagoon/api"
	"lagoon/txn"
)

// Acks keeps up to which zxid each server has acknowledged. NewAcks makes it.
type Acks struct {
	*System
	made bool // as System is seen from outside, it alone does not tell that NewAcks made this one
	some uint8
	upTo [api.MaxServers]api.Zxid // of the servers in some: zero is a zxid, too
}

// NewAcks gives one in which nobody has.
func NewAcks(s *System) (*Acks, api.Errno) {
	if s.isNone() {
		return nil, api.ErrArg
	}
	return &Acks{System: s, made: true}, api.OK
}

// Put says that a server has acknowledged up to a zxid; it never falls.
func (a *Acks) Put(server int8, z api.Zxid) api.Errno {
	if a.isNone() || !a.isServer(server) {
		return api.ErrArg
	}
	if !a.reaches(int(server), z) {
		a.some |= bit(int(server))
		a.upTo[server] = z
	}
	return api.OK
}

// Of tells up to where a server has.
func (a *Acks) Of(server int8) (api.Zxid, bool) {
	if a.isNone() || !a.isServer(server) || a.some&bit(int(server)) == 0 {
		return api.Zxid{}, false
	}
	return a.upTo[server], true
}

// Committed is the greatest zxid up to which a quorum has; false: there is none.
func (a *Acks) Committed() (api.Zxid, bool) {
	if a.isNone() {
		return api.Zxid{}, false
	}
	var greatest api.Zxid
	found := false
	for n := range a.Size() {
		z := a.upTo[n]
		if a.some&bit(n) == 0 || found && txn.Compare(z, greatest) <= 0 {
			continue
		}
		if a.Has(a.from(z)) {
			greatest, found = z, true
		}
	}
	return greatest, found
}

func (a *Acks) isNone() bool { return a == nil || !a.made || a.System.isNone() }

// reaches tells whether a server has acknowledged up to z or above it.
func (a *Acks) reaches(n int, z api.Zxid) bool {
	return a.some&bit(n) != 0 && txn.Compare(a.upTo[n], z) >= 0
}

// from is the set of those that reach z.
func (a *Acks) from(z api.Zxid) uint8 {
	var servers uint8
	for n := range a.Size() {
		if a.reaches(n, z) {
			servers |= bit(n)
		}
	}
	return servers
}
