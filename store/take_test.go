package store_test

import (
	"fmt"
	"math"
	"slices"
	"testing"

	"lagoon/api"
	"lagoon/snap"
)

// imageOf is the image of the tree that these Creates make.
func imageOf(text string) []byte { return snap.Write(treeOf(text)) }

// takesNot looks that a Take is refused, and that nothing has changed.
func takesNot(t *testing.T, what string, s server, b api.Brought, want api.Errno) {
	t.Helper()
	d, x := started(t, s)
	answers(t, "P12.4: "+what, x.Take(b), want)
	counted(t, "P12.4: "+what, d, 3)
	agrees(t, "P12.4: "+what, d, x, s.booted())
}

// takes looks that a Take is done.
func takes(t *testing.T, what string, s server, b api.Brought) {
	t.Helper()
	c := s.booted().take(b)
	d, x := started(t, s)
	answers(t, "P12.4: "+what, x.Take(b), api.OK)
	counted(t, "P12.4: "+what, d, 3+len(c.all()))
	agrees(t, "P12.4: "+what, d, x, c.after)
}

// TestTakeShape: what Whole, Image and Cut may be together; an Image without bytes is none, whichever way.
func TestTakeShape(t *testing.T) {
	s := served(api.Manifest{Boot: 1, Accepted: 2, Current: 1, Log: 1}, "", "1.1 1.2")
	for _, cut := range []string{"1.1", "1.2", "0.1", "1.0", "9.9"} {
		takesNot(t, "Whole with a Cut", s, api.Brought{Epoch: 2, Whole: true, Image: imageOf("1.1"), Cut: z(cut)}, api.ErrArg)
	}
	for _, image := range [][]byte{{0}, imageOf("1.1")} {
		takesNot(t, "not Whole with an Image", s, api.Brought{Epoch: 2, Cut: z("1.1"), Image: image}, api.ErrArg)
		takesNot(t, "not Whole with an Image", s, api.Brought{Epoch: 2, Image: image}, api.ErrArg)
	}
	takes(t, "an Image without bytes", s, api.Brought{Epoch: 2, Cut: z("1.1"), Image: []byte{}, Txns: []api.Txn{}})
	takes(t, "an Image without bytes but with room", s, api.Brought{Epoch: 2, Cut: z("1.1"), Image: imageOf("1.1")[:0]})
	takesNot(t, "Whole without bytes", s, api.Brought{Epoch: 2, Whole: true}, api.ErrSnap)
	takesNot(t, "Whole without bytes", s, api.Brought{Epoch: 2, Whole: true, Image: []byte{}}, api.ErrSnap)
}

// TestTakeEpoch: just the one that was accepted.
func TestTakeEpoch(t *testing.T) {
	for _, m := range []api.Manifest{{Log: 1}, {Accepted: 1, Log: 1}, {Accepted: 1, Current: 1, Log: 1}, {Accepted: 7, Current: 5, Log: 1}, {Accepted: api.LastEpoch, Current: 3, Log: 1}} {
		s := served(m, "", "1.1 1.2")
		for _, epoch := range []uint32{0, 1, 2, 4, 5, 6, 7, 8, api.LastEpoch - 1, api.LastEpoch, api.LastEpoch + 1, math.MaxUint32} {
			for _, b := range []api.Brought{{Epoch: epoch, Cut: z("1.1"), Txns: txns("3.1")}, {Epoch: epoch, Whole: true, Image: imageOf("1.1")}} {
				what := fmt.Sprintf("epoch %d, where %d is accepted, %d current", epoch, m.Accepted, m.Current)
				if epoch == m.Accepted {
					takes(t, what, s, b)
				} else {
					takesNot(t, what, s, b, api.ErrEpoch)
				}
			}
		}
	}
}

// TestTakeCut: at each zxid that stands in a history, and at others.
func TestTakeCut(t *testing.T) {
	for name, s := range servers() {
		for _, text := range []string{"0.0", "0.1", "1.0", "1.1", "1.2", "1.3", "1.4", "1.5", "2.0", "2.1", "2.2", "2.7", "2.8", "3.1", "3.2", "2147483647.5", "2147483647.6", "4294967295.4294967295"} {
			b := api.Brought{Epoch: s.Accepted, Cut: z(text)}
			what := fmt.Sprintf("%s, Cut %s", name, text)
			for _, b.Txns = range [][]api.Txn{nil, txns("2147483647.7"), txns("2147483647.7 2147483647.8 2147483647.4294967295")} {
				if slices.Contains(s.stand(), b.Cut) {
					takes(t, what, s, b)
				} else {
					takesNot(t, what, s, b, api.ErrBefore)
				}
			}
		}
	}
}

// TestTakeTxns: what may not be, and what does not rise behind the Cut, or the image's Last: not what stands behind the Cut.
func TestTakeTxns(t *testing.T) {
	s := served(api.Manifest{Boot: 1, Accepted: 2, Current: 1, Snap: 1, Log: 1}, "1.1", "1.2 1.4 1.6")
	for _, c := range []struct {
		cut, txns string
		want      api.Errno
	}{
		{"1.1", "1.1", api.ErrOrder}, {"1.1", "1.2", api.OK}, {"1.2", "1.2", api.ErrOrder}, {"1.2", "1.1", api.ErrOrder}, {"1.2", "1.3", api.OK}, {"1.2", "1.4 1.6", api.OK},
		{"1.4", "1.5 1.5", api.ErrOrder}, {"1.4", "1.5 1.7 1.6", api.ErrOrder}, {"1.4", "1.5 1.7 1.8", api.OK}, {"1.6", "1.6", api.ErrOrder}, {"1.6", "1.7", api.OK}, {"1.6", "2.1", api.OK}, {"1.6", "2.1 1.9", api.ErrOrder},
	} {
		what := fmt.Sprintf("behind %s: %s", c.cut, c.txns)
		cut := api.Brought{Epoch: 2, Cut: z(c.cut), Txns: txns(c.txns)}
		whole := api.Brought{Epoch: 2, Whole: true, Image: imageOf(c.cut), Txns: txns(c.txns)}
		for _, b := range []api.Brought{cut, whole} {
			if c.want == api.OK {
				takes(t, what, s, b)
			} else {
				takesNot(t, what, s, b, c.want)
			}
		}
	}
	for i, none := range wrong() {
		for place := range 3 {
			l := slices.Insert(txns("9.2 9.3"), place, none)
			what := fmt.Sprintf("wrong transaction %d at %d", i, place)
			takesNot(t, what, s, api.Brought{Epoch: 2, Cut: z("1.2"), Txns: l}, api.ErrTxn)
			takesNot(t, what, s, api.Brought{Epoch: 2, Whole: true, Image: imageOf("1.1"), Txns: l}, api.ErrTxn)
		}
	}
}

// TestTakeSnap: bytes that are no image.
func TestTakeSnap(t *testing.T) {
	s := served(api.Manifest{Boot: 1, Accepted: 2, Current: 1, Log: 1}, "", "1.1 1.2")
	image := imageOf("1.1 1.2")
	for what, b := range map[string][]byte{"torn": image[:len(image)-1], "more": append(slices.Clone(image), 0), "turned": turned(image, 5), "another thing": manifestBytes(s.Manifest), "a byte": {1}} {
		takesNot(t, "an image: "+what, s, api.Brought{Epoch: 2, Whole: true, Image: b}, api.ErrSnap)
	}
}

// TestTakeOrder: which error comes first, of all faults that can come together.
func TestTakeOrder(t *testing.T) {
	for _, whole := range []bool{false, true} {
		for faults := range 256 {
			s := served(api.Manifest{Boot: 1, Accepted: 2, Current: 1, Log: 7}, "", "1.1 1.2")
			b, want := api.Brought{Epoch: 2, Whole: whole, Txns: txns("1.5 1.6")}, api.OK
			if whole {
				b.Image = imageOf("1.1")
			} else {
				b.Cut = z("1.1")
			}
			if faults&1 != 0 {
				s.Log, want = math.MaxInt64, api.ErrSpent
			}
			if faults&2 != 0 {
				b.Txns, want = txns("1.1 1.6"), api.ErrOrder // they rise, but not behind (1, 1)
			}
			if faults&4 != 0 {
				b.Txns[1].From.Number, want = -1, api.ErrTxn
			}
			if faults&8 != 0 && whole {
				b.Image, want = []byte("no image"), api.ErrSnap
			} else if faults&8 != 0 {
				b.Cut, want = z("1.3"), api.ErrBefore
			}
			if faults&16 != 0 {
				b.Epoch, want = 1, api.ErrEpoch
			}
			if faults&32 != 0 && whole {
				b.Cut, want = z("1.1"), api.ErrArg
			} else if faults&32 != 0 {
				b.Image, want = imageOf("1.1"), api.ErrArg
			}
			what := fmt.Sprintf("P12.4: whole %v, faults %08b", whole, faults)
			d, x := started(t, s)
			if faults&64 != 0 {
				d.Off()
				want = api.ErrDown
			}
			if faults&128 != 0 {
				for _, none := range noStores() {
					answers(t, what, none.Take(b), api.ErrArg)
				}
				continue
			}
			answers(t, what, x.Take(b), want)
			if want != api.OK {
				tells(t, what, x, s.booted())
				holds(t, what, d, s.booted().files()...)
				counted(t, what, d, 3)
			}
		}
	}
}

// TestNumbers: the next number is one more than the greater one of both, up to the last one that there is.
func TestNumbers(t *testing.T) {
	for _, n := range [][2]int64{{0, 1}, {1, 1}, {9, 8}, {8, 9}, {15, 3}, {3, 255}, {math.MaxInt64 - 1, 1}, {0, math.MaxInt64 - 1}, {math.MaxInt64, 1}, {0, math.MaxInt64}, {math.MaxInt64, math.MaxInt64}} {
		s := served(api.Manifest{Boot: 1, Accepted: 2, Current: 1, Snap: n[0], Log: n[1]}, "", "1.1 1.2 1.3")
		for _, c := range []step{
			s.booted().take(api.Brought{Epoch: 2, Cut: z("1.2"), Txns: txns("2.1")}),
			s.booted().take(api.Brought{Epoch: 2, Whole: true, Image: imageOf("1.1"), Txns: txns("2.1")}),
			s.booted().snapshot(s.upTo(z("1.2"))),
		} {
			what := fmt.Sprintf("%s, numbers %x", c.what, n)
			d, x := c.begun(t, api.MaxRoom)
			if max(n[0], n[1]) == math.MaxInt64 {
				answers(t, what, c.call(x), api.ErrSpent)
				counted(t, what, d, 3)
				agrees(t, what, d, x, c.before)
				answers(t, what+": Accept", x.Accept(3), api.OK)
				answers(t, what+": Append", x.Append(creates(z("3.1"))), api.OK)
				continue
			}
			answers(t, what, c.call(x), api.OK)
			agrees(t, what, d, x, c.after)
		}
	}
}

// TestTakeExample: example 3.
func TestTakeExample(t *testing.T) {
	d, s := started(t, served(api.Manifest{Accepted: 4, Current: 3, Log: 1}, "", "1.1 1.2 1.3"))
	answers(t, "example 3", s.Take(api.Brought{Epoch: 4, Cut: z("1.2"), Txns: txns("2.1")}), api.OK)
	counted(t, "example 3", d, 3+4+3+2)
	m := api.Manifest{Boot: 1, Accepted: 4, Current: 4, Log: 2}
	holds(t, "example 3", d, file("log.2.1", frames(txns("1.1 1.2"))), file("log.2.2", frames(txns("2.1"))), file("manifest", manifestBytes(m)))
	tells(t, "example 3", s, served(m, "", "1.1 1.2 2.1"))
	answers(t, "example 3: Cut (1, 3)", s.Take(api.Brought{Epoch: 4, Cut: z("1.3")}), api.ErrBefore)
	answers(t, "example 3: Epoch 3", s.Take(api.Brought{Epoch: 3, Cut: z("1.2")}), api.ErrEpoch)
	agrees(t, "example 3", d, s, served(m, "", "1.1 1.2 2.1"))
}
