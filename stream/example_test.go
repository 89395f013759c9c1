package stream_test

import (
	"testing"

	"lagoon/api"
)

// exampleTxns are the chapter's a and b.
func exampleTxns() (a, b api.Txn) { return at(z(2, 1)), rich(z(2, 2)) }

func by(way int8, from api.Zxid) api.Choice { return api.Choice{Way: way, From: from} }

func TestFirstExample(t *testing.T) {
	a, b := exampleTxns()
	q := question{by(api.ByDiff, z(1, 3)), nil, []api.Txn{a, b}, 2, 9}
	q.gives(t, "example 1", diff(z(1, 3), a), diff(z(2, 1), b), newLeader(2, z(2, 2)))
	q.l = nil
	q.gives(t, "example 1, without a and b", newLeader(2, z(1, 3)))
}

func TestSecondExample(t *testing.T) {
	a, _ := exampleTxns()
	q := question{by(api.ByTrunc, z(0, 0)), nil, nil, 2, 9}
	q.gives(t, "example 2", trunc(z(0, 0)), newLeader(2, z(0, 0)))
	q.l = []api.Txn{a}
	q.refused(t, "example 2, ByTrunc with a")
	q.c = by(api.ByTruncDiff, z(1, 1))
	q.gives(t, "example 2, ByTruncDiff", trunc(z(1, 1)), diff(z(1, 1), a), newLeader(2, z(2, 1)))
	q.l = nil
	q.refused(t, "example 2, ByTruncDiff without a")
}

func TestThirdExample(t *testing.T) {
	a, b := exampleTxns()
	q := question{by(api.BySnap, z(2, 1)), []byte{1, 2, 3}, []api.Txn{b}, 2, 2}
	q.gives(t, "example 3", piece(1, 2), final(3), diff(z(2, 1), b), newLeader(2, z(2, 2)))
	q.l = []api.Txn{a}
	q.refused(t, "example 3, with a")
	q.image, q.l = nil, []api.Txn{b}
	q.refused(t, "example 3, with no image")
	q.c.Way, q.image = api.ByDiff, []byte{1, 2, 3}
	q.refused(t, "example 3, ByDiff with an image")
}

func TestFourthExample(t *testing.T) {
	a, b := exampleTxns()
	good := question{by(api.ByDiff, z(1, 3)), nil, []api.Txn{a, b}, 2, 9}
	good.gives(t, "what example 4 turns", diff(z(1, 3), a), diff(z(2, 1), b), newLeader(2, z(2, 2)))
	q := good
	q.epoch = 1
	q.refused(t, "example 4, epoch 1")
	for _, chunk := range []int{0, 4097} {
		q = good
		q.chunk = chunk
		q.refused(t, "example 4, that chunk")
	}
	for _, way := range []int8{0, 5} {
		q = good
		q.c.Way = way
		q.refused(t, "example 4, that way")
	}
}
