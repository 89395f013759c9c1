package snap

import "lagoon/api"

// Joiner puts pieces together. NewJoiner makes it.
type Joiner struct {
	made  bool   // NewJoiner made it: a plain one takes nothing
	bytes []byte // of all pieces that have come
	whole bool   // the last piece has come
}

// NewJoiner gives one that has none.
func NewJoiner() *Joiner { return &Joiner{made: true} }

// Add takes the next piece; final: it is the last.
func (j *Joiner) Add(piece []byte, final bool) api.Errno {
	if j == nil || !j.made {
		return api.ErrArg
	}
	if j.whole || len(piece) < 1 || len(piece) > api.MaxChunk || len(j.bytes)+len(piece) > api.MaxRoom {
		return api.ErrSnap
	}
	j.bytes = append(j.bytes, piece...)
	j.whole = final
	return api.OK
}

// Image tells the whole, if it is.
func (j *Joiner) Image() ([]byte, bool) {
	if j == nil || !j.whole {
		return nil, false
	}
	image := make([]byte, len(j.bytes))
	copy(image, j.bytes)
	return image, true
}
