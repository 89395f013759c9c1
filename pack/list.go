package pack

import "lagoon/api"

// PutList writes a list: how many there are, and each. A nil put puts nothing of each.
func PutList[T any](w *Writer, l []T, put func(w *Writer, x T)) {
	if w == nil {
		return
	}
	w.Int32(int32(len(l)))
	if put == nil {
		return
	}
	defer func() { _ = recover() }() // put is the caller's: whatever it does, this call does not panic
	for _, x := range l {
		put(w, x)
	}
}

// GetList reads one of at most so many. A nil get reads nothing of each, and answers its zero value.
func GetList[T any](r *Reader, most int, get func(r *Reader) T) []T {
	n, ok := r.size(most)
	if !ok {
		return nil
	}
	r.skip(sizeBytes)
	var list []T // grown as it is read: a count alone must not take room
	for i := 0; i < n && r.reads(); i++ {
		list = append(list, getOne(r, get))
	}
	if !r.reads() {
		return nil
	}
	return list
}

// getOne is what get answers. A get that panics is a wrong argument, and so a fault: the list would not be what the bytes say.
func getOne[T any](r *Reader, get func(r *Reader) T) (x T) {
	if get == nil {
		return x
	}
	defer func() {
		if recover() != nil {
			r.Fail(api.ErrArg)
		}
	}()
	return get(r)
}
