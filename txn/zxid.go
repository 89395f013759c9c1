package txn

import "lagoon/api"

// counterBits is how many bits of a zxid's one number its counter has; the epoch stands above them.
const counterBits = 32

// Compare orders two zxids.
func Compare(a, b api.Zxid) int {
	switch {
	case a == b:
		return 0
	case a.Epoch < b.Epoch, a.Epoch == b.Epoch && a.N < b.N:
		return -1
	default:
		return 1
	}
}

// Pack gives a zxid as one number.
func Pack(z api.Zxid) (int64, api.Errno) {
	if z.Epoch > api.LastEpoch {
		return 0, api.ErrArg
	}
	return int64(z.Epoch)<<counterBits | int64(z.N), api.OK
}

// Unpack gives it back.
func Unpack(n int64) (api.Zxid, api.Errno) {
	if n < 0 {
		return api.Zxid{}, api.ErrArg
	}
	return api.Zxid{Epoch: uint32(n >> counterBits), N: uint32(n)}, api.OK
}

// Next is the zxid behind one, within its epoch: last is the epoch's last counter.
func Next(z api.Zxid, last uint32) (api.Zxid, api.Errno) {
	if !isEpoch(z.Epoch) {
		return api.Zxid{}, api.ErrArg
	}
	if z.N >= last {
		return api.Zxid{}, api.ErrSpent
	}
	return api.Zxid{Epoch: z.Epoch, N: z.N + 1}, api.OK
}

// Rises tells whether zxids rise, from one on (that one not among them).
func Rises(after api.Zxid, l []api.Txn) bool {
	for _, t := range l {
		if Compare(t.Zxid, after) <= 0 {
			return false
		}
		after = t.Zxid
	}
	return true
}

func isEpoch(n uint32) bool { return n >= 1 && n <= api.LastEpoch }

// isZxid tells whether a zxid may be: zero is that of a transaction that is not proposed yet.
func isZxid(z api.Zxid) bool {
	return z == api.Zxid{} || isEpoch(z.Epoch) && z.N >= 1
}
