package stream_test

import (
	"math"
	"strconv"
	"testing"

	"lagoon/api"
	"lagoon/txn"
)

// good are questions that are answered, of each way, with and without transactions as it has them.
func good() []question {
	some := logOf(z(2, 4), z(2, 6), z(3, 1))
	from := z(1, 3)
	return []question{
		{by(api.ByDiff, from), nil, nil, 5, 2},
		{by(api.ByDiff, from), nil, some[:1], 5, 2},
		{by(api.ByDiff, from), nil, some, 5, 2},
		{by(api.ByTrunc, from), nil, nil, 5, 2},
		{by(api.ByTruncDiff, from), nil, some[:1], 5, 2},
		{by(api.ByTruncDiff, from), nil, some, 5, 2},
		{by(api.BySnap, from), counting(5), nil, 5, 2},
		{by(api.BySnap, from), counting(5), some[:1], 5, 2},
		{by(api.BySnap, from), counting(5), some, 5, 2},
	}
}

func name(q question) string {
	return "way " + strconv.Itoa(int(q.c.Way)) + " with " + strconv.Itoa(len(q.l)) + " transactions"
}

// TestGood: what the others turn is answered.
func TestGood(t *testing.T) {
	for _, q := range good() {
		q.gives(t, name(q), q.packets()...)
	}
}

// TestWays: each way, and numbers that are none, with an image and without, with no transaction, one, and several.
func TestWays(t *testing.T) {
	some := logOf(z(2, 4), z(2, 6), z(3, 1))
	may := map[[3]int]bool{ // way, whether there is an image, whether there are transactions
		{1, 0, 0}: true, {1, 0, 1}: true, {2, 0, 0}: true, {3, 0, 1}: true, {4, 1, 0}: true, {4, 1, 1}: true,
	}
	for way := math.MinInt8; way <= math.MaxInt8; way++ {
		for i, image := range [][]byte{nil, {}, {9}, counting(7)} {
			for n := range 4 {
				q := question{by(int8(way), z(1, 3)), image, some[:n], 5, 2}
				what := name(q) + ", image " + strconv.Itoa(i)
				if may[[3]int{way, min(len(image), 1), min(n, 1)}] {
					q.gives(t, what, q.packets()...)
				} else {
					q.refused(t, what)
				}
			}
		}
	}
}

// TestEpochs: those that a leader may have, and the ends.
func TestEpochs(t *testing.T) {
	for epoch, may := range map[uint32]bool{0: false, 1: true, 2: true, 2147483646: true, 2147483647: true, 2147483648: false, math.MaxUint32: false} {
		for _, q := range good() {
			q.epoch, q.c.From = epoch, api.Zxid{}
			for i := range q.l {
				q.l[i] = at(z(1, uint32(i+1)))
			}
			if !may {
				q.refused(t, name(q))
				continue
			}
			l := q.gives(t, name(q), q.packets()...)
			if end := l[len(l)-1]; end.Epoch != epoch {
				t.Errorf("P16.1: %s: NewLeader of epoch %d, not %d", name(q), end.Epoch, epoch)
			}
		}
	}
}

// TestChunks: how many bytes a chunk may have, whether chunks are sent or not.
func TestChunks(t *testing.T) {
	for chunk, may := range map[int]bool{math.MinInt: false, -1: false, 0: false, 1: true, 2: true, 4095: true, 4096: true, 4097: false, 1 << 32: false, math.MaxInt: false} {
		for _, q := range good() {
			q.chunk = chunk
			if may {
				q.gives(t, name(q), q.packets()...)
			} else {
				q.refused(t, name(q)+", chunk "+strconv.Itoa(chunk))
			}
		}
	}
}

// TestFrom: it may be, zero too, and its epoch is at most the leader's.
func TestFrom(t *testing.T) {
	for _, c := range []struct {
		from  api.Zxid
		epoch uint32
		may   bool
	}{
		{z(0, 0), 1, true}, {z(0, 0), api.LastEpoch, true},
		{z(1, 1), 1, true}, {z(1, math.MaxUint32), 1, true}, {z(1, 1), 2, true},
		{z(2, 1), 1, false}, {z(2, 1), 2, true}, {z(3, 7), 2, false},
		{z(0, 1), 1, false}, {z(0, math.MaxUint32), 1, false},
		{z(1, 0), 1, false}, {z(1, 0), 2, false}, {z(2, 0), 1, false},
		{z(api.LastEpoch, 1), api.LastEpoch, true}, {z(api.LastEpoch, math.MaxUint32), api.LastEpoch, true},
		{z(api.LastEpoch, 1), api.LastEpoch - 1, false}, {z(api.LastEpoch, 0), api.LastEpoch, false},
		{z(1<<31, 1), api.LastEpoch, false}, {z(1<<31, 1), 1 << 31, false}, {z(math.MaxUint32, 1), math.MaxUint32, false},
	} {
		for _, q := range good() {
			q.c.From, q.epoch, q.l = c.from, c.epoch, nil
			if q.c.Way == api.ByTruncDiff {
				continue // it has no answer without transactions
			}
			if c.may {
				l := q.gives(t, name(q), q.packets()...)
				if end := l[len(l)-1]; end.Zxid != c.from {
					t.Errorf("P16.1: %s: NewLeader at %v, not %v", name(q), end.Zxid, c.from)
				}
			} else {
				q.refused(t, name(q)+", From "+strconv.Itoa(int(c.from.Epoch)))
			}
		}
	}
}

// TestFromThatMayNotBeWithTransactions: though they rise from there on.
func TestFromThatMayNotBeWithTransactions(t *testing.T) {
	for _, q := range good() {
		for _, from := range []api.Zxid{z(0, 1), z(1, 0), z(2, 0), z(0, math.MaxUint32)} {
			q.c.From = from
			if !txn.Rises(from, q.l) {
				t.Fatalf("the transactions do not rise from %v", from)
			}
			q.refused(t, name(q))
		}
	}
}

// turned looks at each question with transactions, with one at each of their places turned.
func turned(t *testing.T, what string, may bool, turn func(q *question, i int)) {
	t.Helper()
	for _, g := range good() {
		for i := range g.l {
			q := g
			q.l = append([]api.Txn{}, g.l...)
			turn(&q, i)
			if may {
				q.gives(t, what+", "+name(q), q.packets()...)
			} else {
				q.refused(t, what+", "+name(q)+", at "+strconv.Itoa(i))
			}
		}
	}
}

// TestTransactionThatMayNotBe: what layer 4 refuses, at each place.
func TestTransactionThatMayNotBe(t *testing.T) {
	turned(t, "no request", false, func(q *question, i int) { q.l[i].Req = api.Request{} })
	turned(t, "a request that reads", false, func(q *question, i int) { q.l[i].Req = api.Request{Kind: api.GetData, Path: "/"} })
	turned(t, "server -1", false, func(q *question, i int) { q.l[i].From.Server = -1 })
	turned(t, "server 6", true, func(q *question, i int) { q.l[i].From.Server = 6 })
	turned(t, "server 7", false, func(q *question, i int) { q.l[i].From.Server = 7 })
	turned(t, "number -1", false, func(q *question, i int) { q.l[i].From.Number = -1 })
	turned(t, "number 0", true, func(q *question, i int) { q.l[i].From.Number = 0 })
	turned(t, "data of 96", true, func(q *question, i int) { q.l[i].Req = api.Request{Kind: api.SetData, Data: make([]byte, 96)} })
	turned(t, "data of 97", false, func(q *question, i int) { q.l[i].Req = api.Request{Kind: api.SetData, Data: make([]byte, 97)} })
	turned(t, "a Multi of none", false, func(q *question, i int) { q.l[i].Req = api.Request{Kind: api.Multi} })
	turned(t, "counter 0", false, func(q *question, i int) { q.l[i].Zxid.N = 0 })
	turned(t, "epoch 0", false, func(q *question, i int) { q.l[i].Zxid.Epoch = 0 })
	turned(t, "no zxid", false, func(q *question, i int) { q.l[i].Zxid = api.Zxid{} })
}

// TestZeroZxid: one that is not proposed yet is above nothing, zero neither.
func TestZeroZxid(t *testing.T) {
	for _, q := range good() {
		q.c.From = api.Zxid{}
		if len(q.l) > 0 {
			q.l = []api.Txn{at(api.Zxid{})}
			q.refused(t, name(q))
		}
	}
}

// TestTransactionsOfLaterEpochs: none is above the leader's; just at it each may be.
func TestTransactionsOfLaterEpochs(t *testing.T) {
	for _, q := range good() {
		if len(q.l) == 0 {
			continue
		}
		last := q.l[len(q.l)-1].Zxid.Epoch
		for epoch := uint32(1); epoch <= 6; epoch++ {
			q.epoch = epoch
			if epoch >= last {
				q.gives(t, name(q), q.packets()...)
			} else {
				q.refused(t, name(q)+", epoch "+strconv.Itoa(int(epoch)))
			}
		}
		q.epoch = api.LastEpoch
		q.l = append(q.l[:len(q.l):len(q.l)], at(z(api.LastEpoch, 9)))
		q.gives(t, name(q), q.packets()...)
		q.epoch--
		q.refused(t, name(q)+", one epoch too few")
	}
}

// TestRising: zxids at From, below it, and at or below the one ahead of them.
func TestRising(t *testing.T) {
	turned(t, "at From", false, func(q *question, i int) { q.l[i].Zxid = q.c.From })
	turned(t, "below From", false, func(q *question, i int) { q.l[i].Zxid = z(1, 2) })
	turned(t, "far below From", false, func(q *question, i int) { q.l[i].Zxid, q.c.From = z(1, 9), z(2, 1) })
	turned(t, "From at it", false, func(q *question, i int) { q.c.From = q.l[i].Zxid })
	turned(t, "From above it", false, func(q *question, i int) { q.c.From = z(q.l[i].Zxid.Epoch, q.l[i].Zxid.N+1) })
	turned(t, "From above all", false, func(q *question, i int) { q.c.From = z(5, 1) })
	turned(t, "From right below the first", true, func(q *question, i int) { q.c.From = z(q.l[0].Zxid.Epoch, q.l[0].Zxid.N-1) })
	turned(t, "twice the same", false, func(q *question, i int) { q.l = append(q.l[:i+1], q.l[i:]...) })
	turned(t, "one above those behind it", false, func(q *question, i int) {
		q.l[i].Zxid = z(4, 9)
		q.l = append(q.l, at(z(4, 8)))
	})
	turned(t, "another epoch with a lower counter", true, func(q *question, i int) { q.l = append(q.l[:i+1], at(z(q.l[i].Zxid.Epoch+1, 1))) })
	turned(t, "a lower epoch with a greater counter", false, func(q *question, i int) { q.l = append(q.l[:i+1], at(z(q.l[i].Zxid.Epoch-1, 99))) })
}

// TestCachedIsNotLookedAt: of each answer, errors too.
func TestCachedIsNotLookedAt(t *testing.T) {
	for _, q := range good() {
		for _, wrong := range []int{1, 0} {
			q.chunk *= wrong
			for _, cached := range []bool{false, true} {
				q.c.Cached = cached
				q.answered(t, name(q))
			}
		}
	}
}

// TestSeveralFaults: they are one error.
func TestSeveralFaults(t *testing.T) {
	bad := at(z(1, 1))
	bad.From.Server = 9
	for way := int8(-1); way <= 6; way++ {
		for _, image := range [][]byte{nil, {1}} {
			question{by(way, z(9, 0)), image, []api.Txn{bad, bad}, 0, -1}.refused(t, "everything wrong")
			question{by(way, z(0, 0)), image, nil, 0, 0}.refused(t, "nothing there")
		}
	}
}

// TestNested: 2^16 requests within one another, which is what the document bounds.
func TestNested(t *testing.T) {
	r := api.Request{Kind: api.Create}
	for range 1 << 16 {
		r = api.Request{Kind: api.Multi, Ops: []api.Request{r}}
	}
	turned(t, "requests within one another", false, func(q *question, i int) { q.l[i].Req = r })
}

// TestAllTogether: every choice of arguments that the chapter's sentences tell apart, by the document's words.
func TestAllTogether(t *testing.T) {
	refused := at(z(2, 3))
	refused.Req.Kind = api.Exists
	lists := [][]api.Txn{
		nil, logOf(z(1, 1)), logOf(z(1, 2), z(2, 1)), logOf(z(2, 1), z(1, 2)), logOf(z(2, 2), z(2, 2)),
		{refused}, append(logOf(z(1, 4)), refused), logOf(z(0, 0)), logOf(z(1, 0)), logOf(z(1, 1), z(api.LastEpoch, 1)),
	}
	answers := map[int8]int{}
	for way := int8(-1); way <= 5; way++ {
		for _, from := range []api.Zxid{{}, z(0, 1), z(1, 0), z(1, 1), z(1, 2), z(2, 1), z(api.LastEpoch, 1), z(1<<31, 1)} {
			for _, l := range lists {
				for _, image := range [][]byte{nil, {1}, counting(4096), counting(4097)} {
					for _, epoch := range []uint32{0, 1, 2, 2147483647, 2147483648} {
						for _, chunk := range []int{-1, 0, 64, 4096, 4097} {
							q := question{api.Choice{Way: way, From: from, Cached: chunk == 64}, image, l, epoch, chunk}
							q.answered(t, "all together")
							if q.mayBe() {
								answers[way]++
							}
						}
					}
				}
			}
		}
	}
	for way := int8(1); way <= 4; way++ {
		if answers[way] < 10 {
			t.Errorf("way %d was answered %d times alone", way, answers[way])
		}
	}
}
