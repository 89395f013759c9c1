package acl

import (
	"strings"
)

// The numbers of an address, and the bits of all of them and of one.
const (
	numbers    = 4
	allBits    = 32
	numberBits = 8
	lastNumber = 255
)

func isAddress(s string) bool {
	_, ok := address(s)
	return ok
}

func isRange(s string) bool {
	_, _, ok := addressRange(s)
	return ok
}

// isWithin tells whether an address is in a range: whether both are the same up to the bits that count.
func isWithin(entry, who string) bool {
	base, count, ok := addressRange(entry)
	other, fits := address(who)
	return ok && fits && firstBits(base, count) == firstBits(other, count)
}

// address reads one: it gathers no more numbers than an address has, however long the text is.
func address(s string) ([numbers]byte, bool) {
	var read []byte
	for text := range strings.SplitSeq(s, ".") {
		n, ok := number(text, lastNumber)
		if !ok || len(read) == numbers {
			return [numbers]byte{}, false
		}
		read = append(read, byte(n))
	}
	if len(read) < numbers {
		return [numbers]byte{}, false
	}
	return [numbers]byte(read), true
}

// addressRange reads a range, and how many of its bits count; a lone address is one of which all do.
func addressRange(s string) ([numbers]byte, int, bool) {
	text, count, cut := strings.Cut(s, "/")
	bits, fits := number(count, allBits)
	if !cut {
		bits, fits = allBits, true
	}
	base, ok := address(text)
	if !ok || !fits {
		return [numbers]byte{}, 0, false
	}
	return base, bits, true
}

// number reads a decimal number up to a last one. It looks at the last one at each digit, so that no text is long enough to wrap it round.
func number(s string, last int) (int, bool) {
	if s == "" || s[0] == '0' && len(s) > 1 {
		return 0, false
	}
	n := 0
	for _, digit := range []byte(s) {
		if digit < '0' || digit > '9' {
			return 0, false
		}
		n = n*10 + int(digit-'0')
		if n > last {
			return 0, false
		}
	}
	return n, true
}

// firstBits is an address whose bits behind the first so many are 0: those that do not count make no difference then.
func firstBits(a [numbers]byte, count int) [numbers]byte {
	for i := range a {
		kept := min(max(count-i*numberBits, 0), numberBits)
		a[i] &= lastNumber << (numberBits - kept)
	}
	return a
}
