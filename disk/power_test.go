package disk_test

import (
	"math"
	"testing"

	"lagoon/api"
	"lagoon/disk"
)

// writes: one call of each kind that writes, for a disk with the files a and b.
func writes() map[string]func(d *disk.Disk) api.Errno {
	return map[string]func(d *disk.Disk) api.Errno{
		"Append to a file":  func(d *disk.Disk) api.Errno { return d.Append("a", []byte("x")) },
		"Append of nothing": func(d *disk.Disk) api.Errno { return d.Append("a", nil) },
		"Append, made":      func(d *disk.Disk) api.Errno { return d.Append("c", []byte("x")) },
		"Sync":              func(d *disk.Disk) api.Errno { return d.Sync("a") },
		"Sync of all":       func(d *disk.Disk) api.Errno { return d.Sync("b") },
		"Cut":               func(d *disk.Disk) api.Errno { return d.Cut("a", 1) },
		"Cut at the end":    func(d *disk.Disk) api.Errno { return d.Cut("a", 3) },
		"Rename":            func(d *disk.Disk) api.Errno { return d.Rename("a", "c") },
		"Rename onto one":   func(d *disk.Disk) api.Errno { return d.Rename("a", "b") },
		"Rename onto itself": func(d *disk.Disk) api.Errno {
			return d.Rename("a", "a")
		},
		"Remove": func(d *disk.Disk) api.Errno { return d.Remove("a") },
	}
}

// TestArmedWrites: each kind of write is done with 1, and not with 0: there the power goes, and nothing else.
func TestArmedWrites(t *testing.T) {
	for name, write := range writes() {
		first := []api.File{file("a", "abc", 1), file("b", "de", 2)}
		free, armed, none := fresh(t, 20, first...), fresh(t, 20, first...), fresh(t, 20, first...)
		armed.Arm(1)
		none.Arm(0)
		answers(t, "P2.6: "+name, []api.Errno{write(free), write(armed), write(none)}, []api.Errno{api.OK, api.OK, api.ErrDown})
		if !armed.On() || none.On() {
			t.Errorf("P2.6: %s: the power with 1: %v, with 0: %v", name, armed.On(), none.On())
		}
		holds(t, "P2.6: armed with 1: "+name, armed, free.Image()...)
		holds(t, "P2.6: armed with 0: "+name, none, first...)
		counted(t, "P2.6: "+name, free, 1)
		counted(t, "P2.6: "+name, armed, 1)
		counted(t, "P2.6: "+name, none, 0)
		answers(t, "P2.6: the next one, "+name, []api.Errno{armed.Append("b", nil), none.Append("b", nil)}, []api.Errno{api.ErrDown, api.ErrDown})
		if armed.On() {
			t.Errorf("P2.6: %s: armed with 1, the second write", name)
		}
	}
}

// TestArmedWithN: just n writes are done.
func TestArmedWithN(t *testing.T) {
	for n := range 6 {
		d := fresh(t, 20)
		d.Arm(n)
		for i := range 8 {
			want := api.OK
			if i >= n {
				want = api.ErrDown
			}
			if e := d.Append("a", []byte("x")); e != want || d.On() != (i < n) {
				t.Errorf("P2.6: armed with %d, write %d: %d, On %v", n, i, e, d.On())
			}
		}
		counted(t, "P2.6", d, n)
		if d.Used() != n {
			t.Errorf("P2.6: armed with %d: Used %d", n, d.Used())
		}
	}
	d := fresh(t, 20)
	d.Arm(math.MaxInt)
	answers(t, "P2.6: armed with the greatest number", []api.Errno{d.Append("a", nil), d.Sync("a")}, make([]api.Errno, 2))
}

// TestRefusedUsesNothing: neither a call with another error, nor a Read, nor one that only tells.
func TestRefusedUsesNothing(t *testing.T) {
	for n := range 2 {
		d := fresh(t, 4, file("a", "abc", 1))
		d.Arm(n)
		answers(t, "P2.6: refused", []api.Errno{d.Append("A", nil), d.Append("a", []byte("xy")), d.Sync("b"), d.Sync("A"), d.Cut("a", 4), d.Cut("b", 0), d.Rename("b", "a"), d.Rename("a", "B"), d.Remove("b"), d.Remove("")}, []api.Errno{api.ErrName, api.ErrFull, api.ErrFile, api.ErrName, api.ErrArg, api.ErrFile, api.ErrFile, api.ErrName, api.ErrFile, api.ErrName})
		holds(t, "P2.6: refused", d, file("a", "abc", 1))
		for i := range n {
			if e := d.Sync("a"); e != api.OK {
				t.Errorf("P2.6: write %d of %d: %d", i, n, e)
			}
		}
		if !d.On() {
			t.Error("P2.6: the power went ahead of its time")
		}
		if e := d.Sync("a"); e != api.ErrDown || d.On() {
			t.Errorf("P2.6: the write behind the last: %d", e)
		}
	}
}

// TestMostFilesUseNothing: P2.2's other ErrName, armed with 0.
func TestMostFilesUseNothing(t *testing.T) {
	d := fresh(t, 4)
	for _, name := range numbered(api.MaxFiles) {
		d.Append(name, nil)
	}
	d.Arm(0)
	if e := d.Append("g", nil); e != api.ErrName || !d.On() {
		t.Errorf("P2.6: one file too many, armed with 0: %d", e)
	}
}

func TestArmAnew(t *testing.T) {
	d := fresh(t, 20)
	d.Arm(0)
	d.Arm(2)
	answers(t, "P2.6: Arm again", []api.Errno{d.Append("a", nil), d.Append("a", nil)}, make([]api.Errno, 2))
	for _, n := range []int{-1, -2, math.MinInt} {
		d.Arm(0)
		d.Arm(n)
		for range 4 {
			if e := d.Append("a", nil); e != api.OK || !d.On() {
				t.Errorf("P2.6: Arm(%d): %d", n, e)
			}
		}
	}
	counted(t, "P2.6: Arm", d, 14)
}

// TestArmWithoutPower: it does nothing, also for the time behind Start.
func TestArmWithoutPower(t *testing.T) {
	for _, n := range []int{-1, 0, 1} {
		d := fresh(t, 20)
		d.Off()
		d.Arm(n)
		if d.On() {
			t.Errorf("P2.6: Arm(%d) brings the power back", n)
		}
		d.Start()
		answers(t, "P2.6: Arm without power", []api.Errno{d.Append("a", nil), d.Append("a", nil), d.Append("a", nil)}, make([]api.Errno, 3))
	}
}

// TestNotArmedWherePowerIsGone: however it went.
func TestNotArmedWherePowerIsGone(t *testing.T) {
	for _, n := range []int{0, 1, 2} {
		d := fresh(t, 20)
		d.Arm(n)
		d.Off()
		d.Start()
		answers(t, "P2.6: behind Off", []api.Errno{d.Append("a", nil), d.Append("a", nil), d.Append("a", nil)}, make([]api.Errno, 3))
	}
	d := fresh(t, 20)
	d.Arm(0)
	d.Append("a", nil)
	d.Start()
	answers(t, "P2.6: behind a write that took the power", []api.Errno{d.Append("a", nil), d.Append("a", nil)}, make([]api.Errno, 2))
	counted(t, "P2.5: Writes ahead of and behind a loss of power", d, 2)
}

func TestOff(t *testing.T) {
	d := fresh(t, 20, file("a", "abc", 1), file("b", "", 0))
	d.Off()
	d.Off()
	if d.On() {
		t.Error("P2.6: On behind Off")
	}
	holds(t, "P2.6: Off changes nothing else", d, file("a", "abc", 1), file("b", "", 0))
	counted(t, "P2.6: Off is no write", d, 0)
}

func TestStart(t *testing.T) {
	for i, c := range []struct {
		keep []int
		want []api.File
	}{
		{nil, []api.File{file("a", "1", 1), file("b", "", 0), file("c", "6", 1)}},
		{[]int{0, 1}, []api.File{file("a", "1", 1), file("b", "4", 1), file("c", "6", 1)}},
		{[]int{1}, []api.File{file("a", "12", 2), file("b", "", 0), file("c", "6", 1)}},
		{[]int{2, 2, 2}, []api.File{file("a", "123", 3), file("b", "45", 2), file("c", "6", 1)}},
		{[]int{3, 0, 0}, []api.File{file("a", "123", 3), file("b", "", 0), file("c", "6", 1)}},
		{[]int{-1, -2, -3}, []api.File{file("a", "1", 1), file("b", "", 0), file("c", "6", 1)}},
		{[]int{math.MinInt, math.MaxInt, math.MaxInt}, []api.File{file("a", "1", 1), file("b", "45", 2), file("c", "6", 1)}},
		{[]int{math.MaxInt, math.MinInt, math.MinInt}, []api.File{file("a", "123", 3), file("b", "", 0), file("c", "6", 1)}},
		{[]int{0, 0, 0, 9, 9}, []api.File{file("a", "1", 1), file("b", "", 0), file("c", "6", 1)}},
		{[]int{1, 1, 1, -1, 9}, []api.File{file("a", "12", 2), file("b", "4", 1), file("c", "6", 1)}},
	} {
		d := fresh(t, 9, file("c", "6", 1), file("b", "45", 0), file("a", "123", 1))
		d.Start(c.keep...)
		holds(t, "P2.7: with power", d, file("a", "123", 1), file("b", "45", 0), file("c", "6", 1))
		d.Off()
		d.Start(c.keep...)
		if !d.On() {
			t.Errorf("P2.7: row %d: no power behind Start", i)
		}
		holds(t, "P2.7: without power", d, c.want...)
		counted(t, "P2.7: Start is no write", d, 0)
	}
	d := fresh(t, 9)
	d.Off()
	d.Start(1, 2)
	holds(t, "P2.7: a disk without files", d)
}

// TestStartWithPowerKeepsArmed: it does nothing at all.
func TestStartWithPowerKeepsArmed(t *testing.T) {
	d := fresh(t, 9, file("a", "abc", 1))
	d.Arm(1)
	d.Start(0)
	answers(t, "P2.7: with power", []api.Errno{d.Append("a", nil), d.Append("a", nil)}, []api.Errno{api.OK, api.ErrDown})
}

// TestRoomBehindStart: what a loss of power took leaves its room.
func TestRoomBehindStart(t *testing.T) {
	d := fresh(t, 5, file("a", "12345", 1))
	d.Off()
	d.Start(1)
	answers(t, "P2.2, P2.7: room", []api.Errno{d.Append("a", []byte("abcd")), d.Append("a", []byte("abc"))}, []api.Errno{api.ErrFull, api.OK})
	holds(t, "P2.2, P2.7", d, file("a", "12abc", 2))
}

func TestFirstExample(t *testing.T) {
	for _, c := range []struct {
		keep []int
		want string
	}{{[]int{2}, "abcde"}, {[]int{9}, "abcdefg"}, {[]int{-1}, "abc"}, {nil, "abc"}} {
		d, _ := disk.New(10)
		answers(t, "example 1", []api.Errno{d.Append("a", []byte("abc")), d.Sync("a"), d.Append("a", []byte("defg"))}, make([]api.Errno, 3))
		holds(t, "example 1", d, file("a", "abcdefg", 3))
		counted(t, "example 1", d, 3)
		d.Off()
		if _, e := d.Read("a"); e != api.ErrDown {
			t.Errorf("example 1: Read without power: %d", e)
		}
		d.Start(c.keep...)
		holds(t, "example 1", d, file("a", c.want, len(c.want)))
	}
}

func TestSecondExample(t *testing.T) {
	d, _ := disk.New(10)
	answers(t, "example 2", []api.Errno{d.Append("b", make([]byte, 11)), d.Append("B", nil), d.Append("b", nil)}, []api.Errno{api.ErrFull, api.ErrName, api.OK})
	holds(t, "example 2", d, file("b", "", 0))
	answers(t, "example 2", []api.Errno{d.Cut("b", 1), d.Cut("c", 1), d.Rename("b", "c")}, []api.Errno{api.ErrArg, api.ErrFile, api.OK})
	holds(t, "example 2", d, file("c", "", 0))
}

func TestThirdExample(t *testing.T) {
	d, _ := disk.New(10)
	d.Arm(1)
	answers(t, "example 3", []api.Errno{d.Append("a", []byte("x")), d.Sync("b"), d.Sync("a")}, []api.Errno{api.OK, api.ErrFile, api.ErrDown})
	if d.On() {
		t.Error("example 3: On")
	}
	holds(t, "example 3", d, file("a", "x", 0))
	d.Arm(5)
	d.Start()
	holds(t, "example 3", d, file("a", "", 0))
	if e := d.Append("a", []byte("y")); e != api.OK {
		t.Errorf("example 3: %d", e)
	}
	holds(t, "example 3", d, file("a", "y", 0))
}

func TestFourthExample(t *testing.T) {
	_, room := disk.New(-1)
	_, name := disk.From(3, []api.File{file("a", "ab", 1), file("a", "", 0)})
	_, synced := disk.From(3, []api.File{file("a", "ab", 3)})
	_, full := disk.From(3, []api.File{file("a", "ab", 1), file("b", "cd", 0)})
	answers(t, "example 4", []api.Errno{room, name, synced, full}, []api.Errno{api.ErrArg, api.ErrName, api.ErrArg, api.ErrFull})
}

func TestFifthExample(t *testing.T) {
	d, _ := disk.New(10)
	answers(t, "example 5", []api.Errno{d.Append("a", []byte("1")), d.Sync("a"), d.Append("a", []byte("23")), d.Append("b", []byte("45"))}, make([]api.Errno, 4))
	d.Off()
	d.Start(0, 1)
	holds(t, "example 5", d, file("a", "1", 1), file("b", "4", 1))
	if e := d.Rename("a", "b"); e != api.OK {
		t.Errorf("example 5: %d", e)
	}
	holds(t, "example 5", d, file("b", "1", 1))
}
