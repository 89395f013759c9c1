package path

import (
	"iter"
	"math"
	"strings"

	"lagoon/api"
)

// sound is the place of a fault that is not there: no text has so many bytes.
const sound = math.MaxInt

// mostDots is how many dots alone are no name.
const mostDots = 2

func isPath(p string) bool { return fault(p) == sound }

// isName asks whether the path of that name alone is one. There a slash, or no byte at all, would not be seen.
func isName(name string) bool {
	return name != "" && !strings.Contains(name, slash) && isPath(slash+name)
}

// fault is the least place at which a text has something that no path has.
func fault(p string) int {
	switch {
	case p == root:
		return sound
	case !strings.HasPrefix(p, slash):
		return 0
	default:
		return min(runeFault(p), nameFault(p), sizeFault(p))
	}
}

// runeFault is the place of the first byte that begins no code point that a path may have.
func runeFault(p string) int {
	for at, r := range p {
		if !mayStand(r) {
			return at
		}
	}
	return sound
}

// mayStand tells whether a code point may stand in a path. Bytes that are no UTF-8 are ranged over as FFFD, which may not.
func mayStand(r rune) bool {
	return r > 0x1F &&
		(r < 0x7F || r > 0x9F) &&
		(r < 0xE000 || r > 0xF8FF) &&
		(r < 0xFFF0 || r > 0xFFFF)
}

// nameFault is the first place at which a name has too few bytes, dots alone, or a byte too many.
func nameFault(p string) int {
each:
	for at, name := range names(p) {
		if len(name) > api.MaxPart {
			return at + api.MaxPart
		}
		for i := range len(name) {
			switch name[i] {
			case '.':
				if i < mostDots {
					break
				}
				fallthrough // a further dot makes it a name, as any other byte does
			default:
				continue each
			}
		}
		return at
	}
	return sound
}

func sizeFault(p string) int {
	if len(p) > api.MaxPath {
		return api.MaxPath
	}
	return sound
}

// names goes through what stands behind each slash of a text, up to the next one or the end, and its place.
func names(p string) iter.Seq2[int, string] {
	return func(yield func(int, string) bool) {
		for i := range len(p) {
			if p[i] != '/' {
				continue
			}
			name, _, _ := strings.Cut(p[i+1:], slash)
			if !yield(i+1, name) {
				return
			}
		}
	}
}
