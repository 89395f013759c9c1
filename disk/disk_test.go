package disk_test

import (
	"bytes"
	"math"
	"slices"
	"strings"
	"testing"

	"lagoon/api"
	"lagoon/disk"
)

// fresh gives a disk of that room with these files, or ends the test.
func fresh(t *testing.T, room int, files ...api.File) *disk.Disk {
	t.Helper()
	d, e := disk.From(room, files)
	if e != api.OK || d == nil {
		t.Fatalf("P2.1: From(%d, %v): %d", room, files, e)
	}
	return d
}

func file(name, text string, synced int) api.File {
	return api.File{Name: name, Bytes: []byte(text), Synced: synced}
}

func sameFiles(a, b []api.File) bool {
	return slices.EqualFunc(a, b, func(x, y api.File) bool {
		return x.Name == y.Name && bytes.Equal(x.Bytes, y.Bytes) && x.Synced == y.Synced
	})
}

// holds looks that a disk has just these files (rising by name), in all that tells of them.
func holds(t *testing.T, what string, d *disk.Disk, files ...api.File) {
	t.Helper()
	if l := d.Image(); !sameFiles(l, files) {
		t.Errorf("%s: Image %v, not %v", what, l, files)
	}
	var names []string
	used := 0
	for _, f := range files {
		names = append(names, f.Name)
		used += len(f.Bytes)
		if p, e := d.Read(f.Name); d.On() && (e != api.OK || !bytes.Equal(p, f.Bytes)) {
			t.Errorf("%s: Read(%q) %q, %d, not %q", what, f.Name, p, e, f.Bytes)
		}
	}
	if l := d.Names(); !slices.Equal(l, names) {
		t.Errorf("%s: Names %q, not %q", what, l, names)
	}
	if d.Used() != used {
		t.Errorf("%s: Used %d, not %d", what, d.Used(), used)
	}
}

// answers looks that calls answered these errors, one by one.
func answers(t *testing.T, what string, got, want []api.Errno) {
	t.Helper()
	if !slices.Equal(got, want) {
		t.Errorf("%s: %d, not %d", what, got, want)
	}
}

// counted looks how many writes were done.
func counted(t *testing.T, what string, d *disk.Disk, want int) {
	t.Helper()
	if d.Writes() != want {
		t.Errorf("%s: Writes %d, not %d", what, d.Writes(), want)
	}
}

// numbered gives n names of files, rising.
func numbered(n int) []string {
	var out []string
	for i := range n {
		out = append(out, "f"+string(rune('0'+i/26))+string(rune('a'+i%26)))
	}
	return out
}

func TestNew(t *testing.T) {
	for _, c := range []struct {
		room int
		e    api.Errno
	}{
		{0, api.OK}, {1, api.OK}, {api.MaxRoom, api.OK},
		{-1, api.ErrArg}, {math.MinInt, api.ErrArg}, {api.MaxRoom + 1, api.ErrArg}, {math.MaxInt, api.ErrArg},
	} {
		d, e := disk.New(c.room)
		if e != c.e || (d != nil) != (e == api.OK) {
			t.Errorf("P2.1: New(%d): %d, %v", c.room, e, d)
		}
		if e != api.OK {
			continue
		}
		holds(t, "P2.1: New", d)
		counted(t, "P2.1: New", d, 0)
		if !d.On() {
			t.Errorf("P2.1: New(%d) is without power", c.room)
		}
		for range 3 {
			if e := d.Append("a", nil); e != api.OK {
				t.Errorf("P2.1: New(%d) is armed: %d", c.room, e)
			}
		}
	}
}

func TestFrom(t *testing.T) {
	d := fresh(t, 6, file("b", "45", 0), file("a", "123", 1), file("c", "", 0), file("a.", "6", 1))
	holds(t, "P2.1", d, file("a", "123", 1), file("a.", "6", 1), file("b", "45", 0), file("c", "", 0))
	counted(t, "P2.1: From", d, 0)
	if !d.On() {
		t.Error("P2.1: From is without power")
	}
	answers(t, "P2.1: From is not armed, and full", []api.Errno{d.Append("b", []byte("x")), d.Sync("b"), d.Sync("b"), d.Remove("c")}, []api.Errno{api.ErrFull, api.OK, api.OK, api.OK})
}

func TestFromErrors(t *testing.T) {
	long := strings.Repeat("a", api.MaxFile+1)
	for i, c := range []struct {
		room  int
		files []api.File
		e     api.Errno
	}{
		{3, nil, api.OK},
		{0, []api.File{file("a", "", 0)}, api.OK},
		{3, []api.File{file("a", "ab", 2), file("b", "c", 0)}, api.OK},
		{3, []api.File{file("a", "ab", 1), file("a", "", 0)}, api.ErrName},
		{3, []api.File{file("a", "ab", 3)}, api.ErrArg},
		{3, []api.File{file("a", "ab", -1)}, api.ErrArg},
		{3, []api.File{file("a", "ab", math.MinInt)}, api.ErrArg},
		{3, []api.File{file("a", "ab", math.MaxInt)}, api.ErrArg},
		{3, []api.File{file("a", "", 1)}, api.ErrArg},
		{3, []api.File{file("a", "ab", 1), file("b", "cd", 0)}, api.ErrFull},
		{3, []api.File{file("a", "abcd", 1)}, api.ErrFull},
		{3, []api.File{file("", "", 0)}, api.ErrName},
		{3, []api.File{file(long, "", 0)}, api.ErrName},
		{3, []api.File{file(long[1:], "", 0)}, api.OK},
		// The room comes ahead of the files.
		{-1, []api.File{file("A", "abcd", 9)}, api.ErrArg},
		{api.MaxRoom + 1, []api.File{file("A", "abcd", 0)}, api.ErrArg},
		// Of one file: its name, its number, its room.
		{3, []api.File{file("A", "abcd", 9)}, api.ErrName},
		{3, []api.File{file("a", "abcd", 9)}, api.ErrArg},
		{3, []api.File{file("a", "abc", 0), file("a", "abcd", 9)}, api.ErrName},
		// Of several the first file that is at fault.
		{3, []api.File{file("a", "abcd", 0), file("B", "", 0)}, api.ErrFull},
		{3, []api.File{file("a", "abc", 4), file("B", "", 0)}, api.ErrArg},
		{3, []api.File{file("a", "ab", 1), file("b", "cd", 0), file("c", "", 1)}, api.ErrFull},
	} {
		d, e := disk.From(c.room, c.files)
		if e != c.e || (d != nil) != (e == api.OK) {
			t.Errorf("P2.1: From, row %d: %d, not %d", i, e, c.e)
		}
	}
}

func TestFromMostFiles(t *testing.T) {
	var files []api.File
	for _, name := range numbered(api.MaxFiles + 1) {
		files = append(files, file(name, "x", 0))
	}
	d := fresh(t, api.MaxFiles, files[:api.MaxFiles]...)
	holds(t, "P2.1: MaxFiles", d, files[:api.MaxFiles]...)
	if d, e := disk.From(api.MaxFiles, files); e != api.ErrName || d != nil {
		t.Errorf("P2.1: MaxFiles and one more: %d", e)
	}
	files[api.MaxFiles].Synced = 2
	if _, e := disk.From(api.MaxFiles, files); e != api.ErrName {
		t.Errorf("P2.1: too many files come ahead of a wrong number: %d", e)
	}
	files[3].Synced = 2
	if _, e := disk.From(api.MaxFiles, files); e != api.ErrArg {
		t.Errorf("P2.1: a wrong number ahead of too many files: %d", e)
	}
}

func TestFromMostBytes(t *testing.T) {
	p := make([]byte, api.MaxRoom+1)
	half := api.MaxRoom / 2
	if _, e := disk.From(api.MaxRoom, []api.File{{Name: "a", Bytes: p[:half]}, {Name: "b", Bytes: p[half:]}}); e != api.ErrFull {
		t.Errorf("P2.1: MaxRoom bytes and one more: %d", e)
	}
	d := fresh(t, api.MaxRoom, api.File{Name: "a", Bytes: p[:half]}, api.File{Name: "b", Bytes: p[half+1:]})
	answers(t, "P2.2: MaxRoom bytes", []api.Errno{d.Append("a", p[:1]), d.Cut("b", 1), d.Append("a", p[:half]), d.Append("a", nil)}, []api.Errno{api.ErrFull, api.OK, api.ErrFull, api.OK})
}

// TestIsName: every byte alone and within, and each length about the bounds.
func TestIsName(t *testing.T) {
	check := func(name string, want bool) {
		t.Helper()
		d := fresh(t, 9, file("a", "", 0))
		_, read := d.Read(name)
		_, from := disk.From(9, []api.File{{Name: name}})
		bad := []api.Errno{d.Append(name, nil), d.Sync(name), d.Cut(name, 0), d.Rename(name, name), from}
		for i, e := range bad {
			if (e != api.ErrName) != want || want && e != api.OK {
				t.Errorf("P2.2 to P2.4: call %d with the name %q: %d", i, name, e)
			}
		}
		if (read != api.ErrName) != want {
			t.Errorf("P2.5: Read(%q): %d", name, read)
		}
		if e := d.Remove(name); (e != api.ErrName) != want {
			t.Errorf("P2.4: Remove(%q): %d", name, e)
		}
	}
	for c := range 256 {
		x := string([]byte{byte(c)})
		good := 'a' <= c && c <= 'z' || '0' <= c && c <= '9' || c == '.'
		for _, name := range []string{x, x + "b", "b" + x, "log." + x + ".1"} {
			check(name, good)
		}
	}
	for n := range api.MaxFile + 3 {
		check(strings.Repeat("z", n), 1 <= n && n <= api.MaxFile)
	}
	check("é", false)
	check(strings.Repeat("a", 1<<16), false)
}

func TestAppend(t *testing.T) {
	d := fresh(t, 10)
	answers(t, "P2.2", []api.Errno{d.Append("b", []byte("ab")), d.Append("a", nil), d.Append("b", []byte("c")), d.Append("b", []byte{})}, make([]api.Errno, 4))
	holds(t, "P2.2", d, file("a", "", 0), file("b", "abc", 0))
	counted(t, "P2.2", d, 4)
	d.Sync("b")
	d.Append("b", []byte("de"))
	holds(t, "P2.2: behind a Sync", d, file("a", "", 0), file("b", "abcde", 3))
}

func TestAppendRoom(t *testing.T) {
	d := fresh(t, 10, file("a", "1234", 4))
	answers(t, "P2.2: room", []api.Errno{d.Append("b", make([]byte, 7)), d.Append("b", []byte("567890")), d.Append("b", []byte("x")), d.Append("c", []byte("x")), d.Append("c", nil), d.Append("a", nil)}, []api.Errno{api.ErrFull, api.OK, api.ErrFull, api.ErrFull, api.OK, api.OK})
	holds(t, "P2.2: room", d, file("a", "1234", 4), file("b", "567890", 0), file("c", "", 0))
	counted(t, "P2.2: room", d, 3)
	answers(t, "P2.2: room comes back", []api.Errno{d.Cut("a", 1), d.Append("c", make([]byte, 4)), d.Append("c", make([]byte, 3)), d.Remove("b"), d.Append("c", make([]byte, 7)), d.Append("c", make([]byte, 6))}, []api.Errno{api.OK, api.ErrFull, api.OK, api.OK, api.ErrFull, api.OK})
	none := fresh(t, 0)
	answers(t, "P2.2: no room", []api.Errno{none.Append("a", []byte("x")), none.Append("a", nil), none.Sync("a"), none.Cut("a", 0)}, []api.Errno{api.ErrFull, api.OK, api.OK, api.OK})
	holds(t, "P2.2: no room", none, file("a", "", 0))
}

func TestAppendMostFiles(t *testing.T) {
	d := fresh(t, 9)
	for _, name := range numbered(api.MaxFiles) {
		if e := d.Append(name, nil); e != api.OK {
			t.Fatalf("P2.2: Append(%q): %d", name, e)
		}
	}
	answers(t, "P2.2: MaxFiles", []api.Errno{d.Append("g", nil), d.Append("g", make([]byte, 10)), d.Append("f0a", make([]byte, 10)), d.Append("f0a", []byte("x")), d.Rename("f0b", "g"), d.Append("f0b", nil), d.Remove("g"), d.Append("h", nil)}, []api.Errno{api.ErrName, api.ErrName, api.ErrFull, api.OK, api.OK, api.ErrName, api.OK, api.OK})
	if l := d.Names(); len(l) != api.MaxFiles || !slices.IsSorted(l) {
		t.Errorf("P2.5: Names %q", l)
	}
}

func TestSync(t *testing.T) {
	d := fresh(t, 10, file("a", "abc", 1), file("b", "de", 0))
	answers(t, "P2.3: Sync", []api.Errno{d.Sync("c"), d.Sync("A"), d.Sync(""), d.Sync("a")}, []api.Errno{api.ErrFile, api.ErrName, api.ErrName, api.OK})
	holds(t, "P2.3: Sync", d, file("a", "abc", 3), file("b", "de", 0))
	d.Sync("a")
	counted(t, "P2.3: Sync also where all is durable", d, 2)
	holds(t, "P2.3: Sync", d, file("a", "abc", 3), file("b", "de", 0))
}

func TestCut(t *testing.T) {
	for _, synced := range []int{0, 2, 4} {
		for n := -1; n <= 5; n++ {
			d := fresh(t, 10, file("a", "abcd", synced), file("b", "e", 0))
			want := api.OK
			if n < 0 || n > 4 {
				want = api.ErrArg
			}
			if e := d.Cut("a", n); e != want {
				t.Errorf("P2.3: Cut(%d): %d, not %d", n, e, want)
			}
			if want == api.OK {
				counted(t, "P2.3: Cut", d, 1)
				holds(t, "P2.3: Cut", d, file("a", "abcd"[:n], n), file("b", "e", 0))
				d.Append("a", []byte("x"))
				holds(t, "P2.3: Append behind a Cut", d, file("a", "abcd"[:n]+"x", n), file("b", "e", 0))
			} else {
				counted(t, "P2.3: Cut", d, 0)
				holds(t, "P2.3: Cut", d, file("a", "abcd", synced), file("b", "e", 0))
			}
		}
	}
	d := fresh(t, 10)
	answers(t, "P2.3: Cut", []api.Errno{d.Cut("a", 0), d.Cut("a", -1), d.Cut("A", -1), d.Cut("", 0)}, []api.Errno{api.ErrFile, api.ErrFile, api.ErrName, api.ErrName})
	d.Append("a", nil)
	answers(t, "P2.3: Cut", []api.Errno{d.Cut("a", 1), d.Cut("a", math.MaxInt), d.Cut("a", math.MinInt), d.Cut("a", 0)}, []api.Errno{api.ErrArg, api.ErrArg, api.ErrArg, api.OK})
}

func TestRename(t *testing.T) {
	for _, c := range []struct {
		from, to string
		e        api.Errno
		want     []api.File
	}{
		{"b", "a", api.OK, []api.File{file("a", "cde", 1), file("d", "f", 1)}},
		{"b", "d", api.OK, []api.File{file("a", "ab", 2), file("d", "cde", 1)}},
		{"a", "e", api.OK, []api.File{file("b", "cde", 1), file("d", "f", 1), file("e", "ab", 2)}},
		{"d", "c", api.OK, []api.File{file("a", "ab", 2), file("b", "cde", 1), file("c", "f", 1)}},
		{"d", "0", api.OK, []api.File{file("0", "f", 1), file("a", "ab", 2), file("b", "cde", 1)}},
		{"b", "b", api.OK, nil},
		{"c", "c", api.ErrFile, nil},
		{"c", "a", api.ErrFile, nil},
		{"B", "a", api.ErrName, nil},
		{"b", "A", api.ErrName, nil},
		{"c", "A", api.ErrName, nil},
		{"", "a", api.ErrName, nil},
		{"a", "", api.ErrName, nil},
	} {
		first := []api.File{file("a", "ab", 2), file("b", "cde", 1), file("d", "f", 1)}
		d := fresh(t, 10, first...)
		if e := d.Rename(c.from, c.to); e != c.e {
			t.Errorf("P2.4: Rename(%q, %q): %d, not %d", c.from, c.to, e, c.e)
		}
		if c.want == nil {
			c.want = first
		}
		holds(t, "P2.4: Rename "+c.from+" "+c.to, d, c.want...)
		if c.e == api.OK {
			counted(t, "P2.4: Rename", d, 1)
		} else {
			counted(t, "P2.4: Rename", d, 0)
		}
	}
}

// TestRenameIsDurable: a new name outlasts the power, and what was durable is so still.
func TestRenameIsDurable(t *testing.T) {
	d := fresh(t, 10, file("a", "ab", 1), file("b", "cd", 2))
	answers(t, "P2.4", []api.Errno{d.Rename("a", "b"), d.Append("a", []byte("x")), d.Append("c", nil), d.Remove("c")}, make([]api.Errno, 4))
	d.Off()
	d.Start()
	holds(t, "P2.4: behind a loss of power", d, file("a", "", 0), file("b", "a", 1))
}

func TestRemove(t *testing.T) {
	d := fresh(t, 10, file("a", "ab", 1), file("b", "cd", 2), file("c", "e", 0))
	answers(t, "P2.4: Remove", []api.Errno{d.Remove("b"), d.Remove("b"), d.Remove("B"), d.Remove("")}, []api.Errno{api.OK, api.ErrFile, api.ErrName, api.ErrName})
	holds(t, "P2.4: Remove", d, file("a", "ab", 1), file("c", "e", 0))
	counted(t, "P2.4: Remove", d, 1)
	d.Append("b", []byte("f"))
	holds(t, "P2.4: a file that comes again", d, file("a", "ab", 1), file("b", "f", 0), file("c", "e", 0))
}

func TestRead(t *testing.T) {
	d := fresh(t, 10, file("a", "abc", 1), file("b", "", 0))
	for _, c := range []struct {
		name, want string
		e          api.Errno
	}{{"a", "abc", api.OK}, {"b", "", api.OK}, {"c", "", api.ErrFile}, {"A", "", api.ErrName}, {"", "", api.ErrName}} {
		if p, e := d.Read(c.name); string(p) != c.want || e != c.e {
			t.Errorf("P2.5: Read(%q): %q, %d", c.name, p, e)
		}
	}
	counted(t, "P2.5: Read is no write", d, 0)
}

// TestTellsWithoutPower: P2.5's five calls, and the errors of all others.
func TestTellsWithoutPower(t *testing.T) {
	d := fresh(t, 10, file("a", "abc", 1))
	d.Append("b", []byte("x"))
	d.Off()
	p, e := d.Read("a")
	if len(p) != 0 {
		t.Errorf("P2.5: Read without power: %q", p)
	}
	_, wrong := d.Read("A")
	got := []api.Errno{e, wrong, d.Append("a", nil), d.Append("A", nil), d.Append("a", make([]byte, 11)), d.Sync("a"), d.Sync("A"), d.Sync("c"), d.Cut("a", 0), d.Cut("a", 9), d.Cut("A", 0), d.Cut("c", 0), d.Rename("a", "b"), d.Rename("A", "b"), d.Rename("c", "b"), d.Remove("a"), d.Remove("A"), d.Remove("c")}
	for i, e := range got {
		if e != api.ErrDown {
			t.Errorf("P2.2 to P2.5: call %d without power: %d", i, e)
		}
	}
	holds(t, "P2.5: without power", d, file("a", "abc", 1), file("b", "x", 0))
	counted(t, "P2.5: without power", d, 1)
	if d.On() {
		t.Error("P2.5: On without power")
	}
}

// TestRefusedChangesNothing: whatever error is answered.
func TestRefusedChangesNothing(t *testing.T) {
	d := fresh(t, 4, file("a", "abc", 1))
	answers(t, "P2.2 to P2.4", []api.Errno{d.Append("A", nil), d.Append("a", []byte("xy")), d.Append("b", []byte("xy")), d.Sync("b"), d.Cut("a", 4), d.Cut("a", -1), d.Rename("b", "a"), d.Rename("a", "B"), d.Remove("b")}, []api.Errno{api.ErrName, api.ErrFull, api.ErrFull, api.ErrFile, api.ErrArg, api.ErrArg, api.ErrFile, api.ErrName, api.ErrFile})
	holds(t, "R2", d, file("a", "abc", 1))
	counted(t, "R2", d, 0)
}

func TestNilAndPlainDisks(t *testing.T) {
	for name, d := range map[string]*disk.Disk{"nil": nil, "plain": {}} {
		for range 2 { // the second time: behind Arm, Off and Start, which do nothing
			p, e := d.Read("a")
			_, wrong := d.Read("A")
			if len(p) != 0 {
				t.Errorf("P2.8: %s: Read %q", name, p)
			}
			got := []api.Errno{e, wrong, d.Append("a", nil), d.Append("A", nil), d.Append("a", []byte("x")), d.Sync("a"), d.Sync("A"), d.Cut("a", 0), d.Cut("A", -1), d.Rename("a", "b"), d.Rename("a", "a"), d.Rename("A", "b"), d.Remove("a"), d.Remove("A")}
			for i, e := range got {
				if e != api.ErrArg {
					t.Errorf("P2.8: %s: call %d: %d", name, i, e)
				}
			}
			if len(d.Names()) != 0 || d.Used() != 0 || d.On() || d.Writes() != 0 || len(d.Image()) != 0 {
				t.Errorf("P2.8: %s: %v, %d, %v, %d, %v", name, d.Names(), d.Used(), d.On(), d.Writes(), d.Image())
			}
			d.Arm(3)
			d.Off()
			d.Start(1, 2)
			d.Arm(0)
		}
	}
}

// TestArgumentsAreCopied: what is done to an argument behind the call is not seen, and the call leaves it as it was.
func TestArgumentsAreCopied(t *testing.T) {
	back := []byte("abcdef")
	p := back[:3]
	files := []api.File{{Name: "b", Bytes: p, Synced: 1}, {Name: "a", Bytes: p}}
	d := fresh(t, 30, files...)
	d.Append("c", p)
	d.Append("a", []byte("x"))
	d.Append("b", []byte("y"))
	d.Append("c", []byte("z"))
	if string(back) != "abcdef" || files[0].Name != "b" || files[0].Synced != 1 || files[1].Name != "a" || files[1].Synced != 0 {
		t.Errorf("P2.8: an argument was changed: %q, %v", back, files)
	}
	copy(back, "------")
	files[0], files[1] = file("q", "q", 1), file("r", "r", 1)
	holds(t, "P2.8: arguments", d, file("a", "abcx", 0), file("b", "abcy", 1), file("c", "abcz", 0))
	keep := []int{9, 9, 9}
	d.Off()
	d.Start(keep...)
	if !slices.Equal(keep, []int{9, 9, 9}) {
		t.Errorf("P2.8: Start changed its numbers: %v", keep)
	}
}

// spoil writes over an answer, its spare room too.
func spoil(p []byte) {
	p = p[:cap(p)]
	for i := range p {
		p[i] = '-'
	}
}

// TestAnswersAreNew: nothing that is done to an answer is seen, also where it is answered twice.
func TestAnswersAreNew(t *testing.T) {
	d := fresh(t, 30, file("b", "def", 1))
	d.Append("a", []byte("ab"))
	d.Append("a", []byte("c"))
	want := []api.File{file("a", "abc", 0), file("b", "def", 1)}
	first, _ := d.Read("a")
	second, _ := d.Read("a")
	spoil(first)
	if string(second) != "abc" {
		t.Errorf("P2.8: two answers of Read share memory: %q", second)
	}
	image, other := d.Image(), d.Image()
	spoil(image[0].Bytes)
	if string(image[1].Bytes) != "def" || !sameFiles(other, want) {
		t.Errorf("P2.8: answers of Image share memory: %v, %v", image, other)
	}
	image[0] = file("q", "q", 1)
	_ = append(image[:1], file("r", "r", 1))
	names := d.Names()
	names[0] = "q"
	_ = append(names[:1], "r")
	holds(t, "P2.8: answers", d, want...)
	d.Append("a", []byte("x"))
	if string(second) != "abc" || !sameFiles(other, want) {
		t.Errorf("P2.8: an answer changed behind the call: %q, %v", second, other)
	}
}

// TestTwoDisks: one made of another's image knows nothing of it.
func TestTwoDisks(t *testing.T) {
	a := fresh(t, 30, file("a", "abc", 1))
	b := fresh(t, 30, a.Image()...)
	a.Append("a", []byte("x"))
	b.Append("a", []byte("y"))
	b.Off()
	holds(t, "R6", a, file("a", "abcx", 1))
	holds(t, "R6", b, file("a", "abcy", 1))
	if !a.On() {
		t.Error("R6: the power of another disk")
	}
}
