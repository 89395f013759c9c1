package learn_test

import (
	"testing"

	"lagoon/api"
	"lagoon/txn"
)

// examples is the follower of the chapter's section Examples.
func examples(t *testing.T) *pupil {
	t.Helper()
	return begun(t, 3, api.Zxid{}, logOf(z(1, 1), z(1, 2)))
}

// brings looks at what a Learner that is done tells, written out by hand.
func (u *pupil) brings(t *testing.T, what string, want api.Brought) {
	t.Helper()
	if b, is := u.Brought(); !is || !sameBrought(b, want) {
		t.Errorf("P17.4: %s: %+v, %v, not %+v", what, b, is, want)
	}
}

func TestFirstExample(t *testing.T) {
	u := examples(t).fit(t, "example 1", diff(z(1, 2), at(z(2, 1))), newLeader(3, z(2, 1)))
	u.brings(t, "example 1", api.Brought{Epoch: 3, Cut: z(1, 2), Txns: []api.Txn{at(z(2, 1))}})
}

func TestSecondExample(t *testing.T) {
	u := examples(t).fit(t, "example 2", trunc(z(1, 1)), newLeader(3, z(1, 1)))
	u.brings(t, "example 2", api.Brought{Epoch: 3, Cut: z(1, 1)})
	u = examples(t).misfit(t, "example 2, (1, 3)", trunc(z(1, 3)))
	u.fit(t, "example 2, zero", trunc(z(0, 0)))
	u.misfit(t, "example 2, a second one", trunc(z(1, 1)), trunc(z(0, 0)))
	u.fit(t, "example 2, zero", newLeader(3, z(0, 0))).brings(t, "example 2, zero", api.Brought{Epoch: 3})
}

func TestThirdExample(t *testing.T) {
	u := examples(t).misfit(t, "example 3", diff(z(1, 1), at(z(1, 3))), diff(z(1, 1), at(z(2, 1))), diff(z(1, 2), at(z(4, 1))), newLeader(2, z(1, 2)))
	u.fit(t, "example 3", newLeader(3, z(1, 2))).brings(t, "example 3", api.Brought{Epoch: 3, Cut: z(1, 2)})
	u.misfit(t, "example 3, behind the end", newLeader(3, z(1, 2)), diff(z(1, 2), at(z(2, 1))), trunc(z(1, 1)), piece([]byte{1}), final(imageAt(z(1, 2))))
}

func TestFourthExample(t *testing.T) {
	image := imageAt(z(2, 7))
	u := examples(t).fit(t, "example 4", piece(image[:30]))
	u.misfit(t, "example 4", diff(z(1, 2), at(z(2, 1))), final([]byte{1}), final(image), final(image[29:]))
	u.fit(t, "example 4", final(image[30:]), newLeader(3, z(2, 7)))
	u.brings(t, "example 4", api.Brought{Epoch: 3, Whole: true, Image: image})
}

// TestAnswers: what Take and Last tell, by hand, packet by packet.
func TestAnswers(t *testing.T) {
	image := imageAt(z(2, 7))
	u := examples(t)
	for i, c := range []struct {
		p    api.Packet
		done bool
		e    api.Errno
		last api.Zxid
	}{
		{diff(z(2, 7), at(z(3, 1))), false, 170, z(1, 2)},
		{piece(image[:1]), false, 0, z(1, 2)},
		{trunc(z(1, 1)), false, 170, z(1, 2)},
		{piece(image[1:9]), false, 0, z(1, 2)},
		{newLeader(3, z(1, 2)), false, 170, z(1, 2)},
		{final(image[9:]), false, 0, z(2, 7)},
		{final(image), false, 170, z(2, 7)},
		{diff(z(2, 7), rich(z(3, 1))), false, 0, z(3, 1)},
		{diff(z(2, 7), rich(z(3, 1))), false, 170, z(3, 1)},
		{newLeader(3, z(2, 7)), false, 170, z(3, 1)},
		{newLeader(3, z(3, 1)), true, 0, z(3, 1)},
		{newLeader(3, z(3, 1)), false, 170, z(3, 1)},
	} {
		done, e := u.Take(c.p)
		if done != c.done || e != c.e {
			t.Errorf("P17.2: packet %d: %v, %d", i, done, e)
		}
		if x := u.Last(); x != c.last {
			t.Errorf("P17.3: behind packet %d: %v", i, x)
		}
		if _, is := u.Brought(); is != (i >= 10) {
			t.Errorf("P17.4: behind packet %d: %v", i, is)
		}
	}
	b, _ := u.Brought()
	if !b.Whole || string(b.Image) != string(image) || b.Epoch != 3 || b.Cut != z(0, 0) || len(b.Txns) != 1 || !txn.Same(b.Txns[0], rich(z(3, 1))) {
		t.Errorf("P17.4: %+v", b)
	}
}
