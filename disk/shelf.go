package disk

import (
	"slices"
	"strings"

	"lagoon/api"
)

// file: its bytes, of which the first durable ones outlast a loss of power.
type file struct {
	name    string
	bytes   []byte
	durable int
}

func (f *file) append(p []byte) {
	end := len(f.bytes)
	f.bytes = slices.Grow(f.bytes, len(p))[:end+len(p)]
	copy(f.bytes[end:], p)
}

// cut leaves the first n bytes, and no tail.
func (f *file) cut(n int) {
	f.bytes = f.bytes[:n]
	f.durable = n
}

// lose is what a loss of power does to the file: of its tail at most keep bytes stay.
func (f *file) lose(keep int) {
	tail := len(f.bytes) - f.durable
	f.cut(f.durable + min(max(keep, 0), tail))
}

func (f *file) copied() []byte {
	p := make([]byte, len(f.bytes))
	copy(p, f.bytes)
	return p
}

// shelf: the files of a disk, no two with one name. They lie rising by name, as they are told and as Start counts them.
type shelf struct {
	files []*file
}

// place is where the file of a name lies, or would lie.
func (s *shelf) place(name string) (int, bool) {
	return slices.BinarySearchFunc(s.files, name, func(f *file, name string) int { return strings.Compare(f.name, name) })
}

func (s *shelf) find(name string) *file {
	i, ok := s.place(name)
	if !ok {
		return nil
	}
	return s.files[i]
}

// crowded tells whether another file would be one too many.
func (s *shelf) crowded() bool { return len(s.files) >= api.MaxFiles }

func (s *shelf) put(f *file) {
	i, _ := s.place(f.name)
	s.files = slices.Insert(s.files, i, f)
}

// add makes a file that is not there yet.
func (s *shelf) add(name string) *file {
	f := &file{name: name}
	s.put(f)
	return f
}

func (s *shelf) drop(name string) {
	if i, ok := s.place(name); ok {
		s.files = slices.Delete(s.files, i, i+1)
	}
}

// move gives the file another name. Both names are taken away first: the file that had the other one goes, and from a name to itself nothing changes.
func (s *shelf) move(from, to string) {
	f := s.find(from)
	s.drop(from)
	s.drop(to)
	f.name = to
	s.put(f)
}

func (s *shelf) names() []string {
	out := make([]string, len(s.files))
	for i, f := range s.files {
		out[i] = f.name
	}
	return out
}

func (s *shelf) used() int {
	sum := 0
	for _, f := range s.files {
		sum += len(f.bytes)
	}
	return sum
}

func (s *shelf) image() []api.File {
	out := make([]api.File, len(s.files))
	for i, f := range s.files {
		out[i] = api.File{Name: f.name, Bytes: f.copied(), Synced: f.durable}
	}
	return out
}

func isName(name string) bool {
	if len(name) < 1 || len(name) > api.MaxFile {
		return false
	}
	for i := range len(name) {
		c := name[i]
		if (c < 'a' || c > 'z') && (c < '0' || c > '9') && c != '.' {
			return false
		}
	}
	return true
}
