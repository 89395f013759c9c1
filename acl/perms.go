package acl

import (
	"lagoon/api"
)

// nothing is the text of no permission at all.
const nothing = "-"

// The letters in the order in which they are written, each with its bit's place: the bits stand in another order.
var letters = [...]struct {
	sign  rune
	shift uint8
}{
	{'c', 2}, {'d', 3}, {'r', 0}, {'w', 1}, {'a', 4},
}

// Perms writes permissions as letters.
func Perms(p int8) (string, api.Errno) {
	if !isPerms(p) {
		return "", api.ErrAcl
	}
	if p == 0 {
		return nothing, api.OK
	}
	var text []rune
	for _, l := range letters {
		if p>>l.shift&1 == 1 {
			text = append(text, l.sign)
		}
	}
	return string(text), api.OK
}

// ParsePerms reads them.
func ParsePerms(s string) (int8, api.Errno) {
	if s == nothing {
		return 0, api.OK
	}
	var p int8
	for _, sign := range s {
		bit := bitOf(sign)
		if bit == 0 || p&bit != 0 {
			return 0, api.ErrAcl
		}
		p |= bit
	}
	return p, errorUnless(p != 0)
}

// bitOf is a letter's bit; of any other sign it is 0.
func bitOf(sign rune) int8 {
	for _, l := range letters {
		if l.sign == sign {
			return 1 << l.shift
		}
	}
	return 0
}

func isPerms(p int8) bool { return p >= 0 && p <= api.PermAll }
