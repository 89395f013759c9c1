package learn_test

import (
	"math"
	"testing"

	"lagoon/api"
	"lagoon/learn"
)

// refused looks that there is no Learner.
func refused(t *testing.T, what string, epoch uint32, snap api.Zxid, log []api.Txn) {
	t.Helper()
	if l, e := learn.New(epoch, snap, log); e != api.ErrArg || l != nil {
		t.Errorf("P17.1: %s: New(%d, %v, %d transactions): %v, %d", what, epoch, snap, len(log), l, e)
	}
}

// TestLogs: those that rise from the snapshot's zxid on, and those that do not.
func TestLogs(t *testing.T) {
	for _, c := range []struct {
		what string
		snap api.Zxid
		log  []api.Zxid
		may  bool
	}{
		{"no log", z(0, 0), nil, true},
		{"no log behind a snapshot", z(2, 5), nil, true},
		{"one behind zero", z(0, 0), []api.Zxid{z(1, 1)}, true},
		{"rising", z(1, 3), []api.Zxid{z(1, 4), z(1, 9), z(2, 1), z(5, 1)}, true},
		{"right behind", z(1, math.MaxUint32), []api.Zxid{z(2, 0)}, true},
		{"to the end", z(0, 0), []api.Zxid{z(api.LastEpoch, 1), z(api.LastEpoch, math.MaxUint32)}, true},
		{"at the snapshot's", z(1, 3), []api.Zxid{z(1, 3)}, false},
		{"at zero", z(0, 0), []api.Zxid{z(0, 0)}, false},
		{"below it", z(1, 3), []api.Zxid{z(1, 2)}, false},
		{"below it, by its epoch", z(2, 1), []api.Zxid{z(1, 9)}, false},
		{"below it, and rising above it", z(1, 3), []api.Zxid{z(1, 2), z(1, 4)}, false},
		{"twice the same", z(1, 3), []api.Zxid{z(1, 4), z(1, 4)}, false},
		{"falling", z(1, 3), []api.Zxid{z(1, 5), z(1, 4)}, false},
		{"falling by epoch", z(1, 3), []api.Zxid{z(2, 1), z(1, 9)}, false},
		{"falling at the end", z(1, 3), []api.Zxid{z(1, 4), z(1, 5), z(1, 6), z(1, 5)}, false},
	} {
		for _, epoch := range []uint32{0, 1, 3, 2147483647} {
			if c.may {
				begun(t, epoch, c.snap, logOf(c.log...))
			} else {
				refused(t, c.what, epoch, c.snap, logOf(c.log...))
			}
		}
		refused(t, c.what, 2147483648, c.snap, logOf(c.log...))
	}
}

// TestNewEpochs: 0 to LastEpoch, whatever the history's epochs are.
func TestNewEpochs(t *testing.T) {
	for epoch, may := range map[uint32]bool{0: true, 1: true, 2: true, 2147483646: true, 2147483647: true, 2147483648: false, math.MaxUint32: false} {
		for _, log := range [][]api.Txn{nil, {}, logOf(z(1, 1)), logOf(z(4, 1), z(7, 1))} {
			if may {
				begun(t, epoch, z(0, 0), log)
			} else {
				refused(t, "an epoch", epoch, z(0, 0), log)
			}
		}
	}
}

// TestEachEpochLearns: of each epoch that a leader may have there is a way to the end; with epoch 0 there is none.
func TestEachEpochLearns(t *testing.T) {
	for _, epoch := range []uint32{1, 2, 2147483646, 2147483647} {
		u := begun(t, epoch, z(0, 0), nil)
		u.fit(t, "each epoch", diff(z(0, 0), at(z(epoch, 1))))
		u.misfit(t, "one less", newLeader(epoch-1, z(epoch, 1)))
		u.misfit(t, "one more", newLeader(epoch+1, z(epoch, 1)))
		u.fit(t, "each epoch", newLeader(epoch, z(epoch, 1)))
	}
	u := begun(t, 0, z(0, 0), nil)
	u.misfit(t, "epoch 0", newLeader(0, z(0, 0)), newLeader(1, z(0, 0)), diff(z(0, 0), at(z(1, 1))))
	u.fit(t, "epoch 0", final(imageAt(z(1, 1))))
	u.misfit(t, "epoch 0", newLeader(0, z(1, 1)), newLeader(1, z(1, 1)))
}

// TestWhatElseTheLogIs: it need not be one that layer 4 lets pass; its zxids alone count.
func TestWhatElseTheLogIs(t *testing.T) {
	r := api.Request{Kind: api.Create}
	for range 1 << 16 {
		r = api.Request{Kind: api.Multi, Ops: []api.Request{r}}
	}
	log := []api.Txn{{Zxid: z(0, 1)}, {Zxid: z(1, 0), From: api.Origin{Server: -1}}, {Zxid: z(1, 2), Req: r}, {Zxid: z(1<<31, 0)}}
	u := begun(t, 3, z(0, 0), log)
	u.misfit(t, "zxids that may not be", trunc(z(0, 1)), trunc(z(1, 0)), trunc(z(1<<31, 0)), newLeader(3, z(1<<31, 0)))
	u.fit(t, "one that may", trunc(z(1, 2)), newLeader(3, z(1, 2)))
	u = begun(t, 3, z(1, 0), nil)
	u.misfit(t, "a snapshot's that may not be", trunc(z(1, 0)), newLeader(3, z(1, 0)), diff(z(1, 0), at(z(1, 1))))
	u.fit(t, "a copy", final(imageAt(z(0, 0))), newLeader(3, z(0, 0)))
}

// TestSeveralLearners: they know nothing of each other.
func TestSeveralLearners(t *testing.T) {
	log := logOf(z(1, 1), z(1, 2))
	a, b, c := begun(t, 3, z(0, 0), log), begun(t, 3, z(0, 0), log), begun(t, 4, z(0, 0), log[:1])
	image := imageAt(z(2, 2))
	a.fit(t, "a", piece(image[:20]))
	b.fit(t, "b", trunc(z(1, 1)))
	c.fit(t, "c", diff(z(1, 1), at(z(4, 1))))
	a.fit(t, "a", final(image[20:]))
	b.fit(t, "b", newLeader(3, z(1, 1)))
	c.misfit(t, "c", newLeader(3, z(4, 1)))
	a.fit(t, "a", newLeader(3, z(2, 2)))
	c.fit(t, "c", newLeader(4, z(4, 1)))
	for _, u := range []*pupil{a, b, c} {
		u.looks(t, "at the end")
	}
}

// TestNone: a nil Learner, and one that New did not make.
func TestNone(t *testing.T) {
	image := imageAt(z(1, 1))
	for what, l := range map[string]*learn.Learner{"nil": nil, "plain": {}, "new": new(learn.Learner)} {
		for _, p := range []api.Packet{{}, trunc(z(0, 0)), piece(image), final(image), diff(z(0, 0), at(z(1, 1))), newLeader(1, z(0, 0)), {Kind: 99}} {
			if done, e := l.Take(p); done || e != api.ErrArg {
				t.Errorf("R3: Take of kind %d of a %s Learner: %v, %d", p.Kind, what, done, e)
			}
			if x := l.Last(); x != z(0, 0) {
				t.Errorf("R3: Last of a %s Learner: %v", what, x)
			}
			if b, is := l.Brought(); is || !sameBrought(b, api.Brought{}) {
				t.Errorf("R3: Brought of a %s Learner: %+v, %v", what, b, is)
			}
		}
	}
}
