package acl

import (
	"lagoon/api"
)

// The schemes, and world's one name.
const (
	world  = "world"
	ip     = "ip"
	named  = "name"
	auth   = "auth"
	anyone = "anyone"
)

// A scheme's row: what its names must be in an id of a client and in one of an entry, and how an entry's name is met by a client's id. Whoever asks met has looked at both ids before.
type scheme struct {
	name     string
	ofClient func(name string) bool
	ofEntry  func(name string) bool
	met      func(name string, who api.Id) bool
}

func schemes() [4]scheme {
	return [...]scheme{
		{world, isNone, only(anyone), byEach},
		{ip, isAddress, isRange, by(ip, isWithin)},
		{named, isName, isName, by(named, isSame)},
		{auth, isNone, only(""), byNobody},
	}
}

// schemeOf is the row of an id's scheme; an unknown one has a row that takes nothing, so that nobody need ask whether there is one.
func schemeOf(id api.Id) scheme {
	for _, s := range schemes() {
		if s.name == id.Scheme {
			return s
		}
	}
	return scheme{id.Scheme, isNone, isNone, byNobody}
}

func isOfClient(id api.Id) bool { return schemeOf(id).ofClient(id.Name) }

func isOfEntry(id api.Id) bool { return schemeOf(id).ofEntry(id.Name) }

func isNone(string) bool { return false }

func only(one string) func(string) bool {
	return func(name string) bool { return name == one }
}

func byEach(string, api.Id) bool { return true }

func byNobody(string, api.Id) bool { return false }

// by is met only within the scheme: a name may look like an address.
func by(scheme string, met func(entry, who string) bool) func(string, api.Id) bool {
	return func(name string, who api.Id) bool { return who.Scheme == scheme && met(name, who.Name) }
}

func isSame(entry, who string) bool { return entry == who }

// isName tells whether a text is a name. A byte that is no code point's comes as a rune that no name has.
func isName(s string) bool {
	if len(s) < 1 || len(s) > api.MaxId {
		return false
	}
	for _, r := range s {
		if !mayStand(r) {
			return false
		}
	}
	return true
}

func mayStand(r rune) bool {
	switch {
	case 'a' <= r && r <= 'z', '0' <= r && r <= '9':
		return true
	}
	return r == '.' || r == '_' || r == '-'
}
