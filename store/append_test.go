package store_test

import (
	"fmt"
	"testing"

	"lagoon/api"
)

// TestAppend: at, below and above the last one, of every server: with a log, and with a snapshot alone.
func TestAppend(t *testing.T) {
	for name, s := range servers() {
		s = s.booted()
		last := s.last()
		for _, at := range []api.Zxid{
			{Epoch: 1, N: 1}, {Epoch: 1, N: 2}, s.tree.Last(), last,
			{Epoch: last.Epoch, N: last.N - 1}, {Epoch: last.Epoch, N: last.N + 1}, {Epoch: last.Epoch, N: 1<<32 - 1},
			{Epoch: last.Epoch + 1, N: 1}, {Epoch: last.Epoch - 1, N: 1<<32 - 1}, {Epoch: api.LastEpoch, N: 1<<32 - 1},
		} {
			if at.Epoch == 0 || at.Epoch > api.LastEpoch || at.N == 0 {
				continue // see TestAppendNone
			}
			c := s.append(creates(at))
			c.what += ", " + name
			d, x := c.begun(t, api.MaxRoom)
			n := d.Writes()
			if at.Epoch < last.Epoch || at.Epoch == last.Epoch && at.N <= last.N {
				answers(t, c.what, c.call(x), api.ErrOrder)
				counted(t, c.what, d, n)
				agrees(t, c.what, d, x, c.before)
				continue
			}
			answers(t, c.what, c.call(x), api.OK)
			counted(t, c.what, d, n+2)
			agrees(t, c.what, d, x, c.after)
			answers(t, c.what+", again", c.call(x), api.ErrOrder)
		}
	}
}

// TestAppendNone: what may not be, and the zxid zero, come ahead of their order; no power ahead of both.
func TestAppendNone(t *testing.T) {
	for name, s := range servers() {
		for i, none := range wrong() {
			what := fmt.Sprintf("P12.3: wrong transaction %d, %s", i, name)
			d, x := started(t, s)
			answers(t, what, x.Append(none), api.ErrTxn)
			none.Zxid = api.Zxid{}
			answers(t, what+", zero", x.Append(none), api.ErrTxn)
			counted(t, what, d, 3)
			agrees(t, what, d, x, s.booted())
			d.Off()
			answers(t, what+", off", x.Append(none), api.ErrDown)
			answers(t, what+", off, not behind the last", x.Append(creates(z("1.1"))), api.ErrDown)
		}
	}
	s := served(api.Manifest{Log: 1}, "", "5.5")
	_, x := started(t, s)
	low := creates(z("5.5"))
	low.Req.Version = 7 // a Create names none
	answers(t, "P12.3: it may not be, and is not behind the last", x.Append(low), api.ErrTxn)
	low.Req.Version = 0
	answers(t, "P12.3: it is not behind the last", x.Append(low), api.ErrOrder)
}

// TestAppendBehindSnapshot: a log without transactions stands behind the snapshot all the same, however it came to be so.
func TestAppendBehindSnapshot(t *testing.T) {
	s := served(api.Manifest{Boot: 1, Accepted: 3, Current: 3, Log: 1}, "", "1.1 1.2 1.3")
	for _, c := range []step{s.snapshot(s.upTo(z("1.3"))), s.take(api.Brought{Epoch: 3, Whole: true, Image: imageOf("1.1 1.3")})} {
		c.before.Boot++
		d, x := c.begun(t, api.MaxRoom)
		answers(t, c.what, c.call(x), api.OK)
		for _, again := range []bool{false, true} {
			if again {
				restarted(d, 0)
				x = opened(t, d, 2)
			}
			for _, low := range []string{"1.1", "1.2", "1.3"} {
				answers(t, "P12.3: not behind the snapshot", x.Append(creates(z(low))), api.ErrOrder)
			}
		}
		answers(t, "P12.3: behind the snapshot", x.Append(creates(z("1.4"))), api.OK)
		if got := x.Durable(); got.Snap != z("1.3") || got.Last != z("1.4") {
			t.Errorf("P12.7: %v", got)
		}
	}
}

// TestAppendExample: the second half of example 2.
func TestAppendExample(t *testing.T) {
	d := diskOf(t)
	s := opened(t, d, 2)
	answers(t, "example 2", s.Accept(3), api.OK)
	answers(t, "example 2", s.Lead(3), api.OK)
	for _, x := range txns("1.1 1.2 1.3") {
		answers(t, "example 2: Append", s.Append(x), api.OK)
	}
	answers(t, "example 2: Append(T12)", s.Append(creates(z("1.2"))), api.ErrOrder)
	counted(t, "example 2", d, 5+3+3+6)
	m := api.Manifest{Boot: 1, Accepted: 3, Current: 3, Log: 1}
	holds(t, "example 2", d, file("log.1.1", frames(txns("1.1 1.2"))), file("log.1.2", frames(txns("1.3"))), file("manifest", manifestBytes(m)))
	agrees(t, "example 2", d, s, served(m, "", "1.1 1.2 1.3"))
}
