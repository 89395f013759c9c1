package store

import (
	"math"
	"slices"

	"lagoon/api"
	"lagoon/log"
	"lagoon/manifest"
	"lagoon/snap"
	"lagoon/ztree"
)

// write is one of a change, or several that stand together.
type write func() api.Errno

// play does writes in their order, up to the first that is refused.
func play(all []write) api.Errno {
	for _, w := range all {
		if e := w(); e != api.OK {
			return e
		}
	}
	return api.OK
}

// begin makes the store of a new server: no file that is there is one of its own.
func (s *Store) begin() api.Errno {
	s.Manifest, s.tree = api.Manifest{Boot: 1, Log: 1}, ztree.New()
	all := s.removing(s.disk.Names())
	return play(append(all, s.creating(&s.kept, nil), s.putting(&s.kept)))
}

// find makes the store of a manifest's files, and counts the start.
func (s *Store) find(m api.Manifest) api.Errno {
	s.Manifest = m
	if m.Log == 0 || s.readImage() != api.OK {
		return api.ErrState
	}
	if m.Boot == math.MaxUint32 {
		return api.ErrSpent
	}
	l, e := log.Open(s.disk, m.Log, s.size, s.tree.Last())
	if e == api.ErrFile || e == api.ErrTorn {
		return api.ErrState
	}
	if e != api.OK {
		return e
	}
	s.settle(l, l.All())
	s.Boot++
	return play(append(s.clearing(), s.putting(&s.kept)))
}

// readImage finds the snapshot's tree.
func (s *Store) readImage() api.Errno {
	if s.Snap == 0 {
		s.tree = ztree.New()
		return api.OK
	}
	b, e := s.disk.Read(s.imageFile())
	if e != api.OK {
		return e
	}
	s.tree, e = snap.Read(b)
	return e
}

// swap puts a manifest that names the same files, and keeps it if the disk does.
func (s *Store) swap(m api.Manifest) api.Errno {
	e := manifest.Put(s.disk, m)
	if e == api.OK {
		s.Manifest = m
	}
	return e
}

// change plays the writes of what is to be kept next, and puts its manifest. What is kept then is that, if it was put, or what was kept before; whichever it is, all other files are cleared (without power none is).
func (s *Store) change(next *kept, writes ...write) (e api.Errno) {
	defer func() {
		if e == api.OK {
			s.kept = *next
		}
		play(s.clearing())
	}()
	return play(append(writes, s.putting(next)))
}

// clearing are the writes that remove all files that the manifest does not name.
func (s *Store) clearing() []write {
	return s.removing(slices.DeleteFunc(s.disk.Names(), s.names))
}

func (s *Store) removing(files []string) []write {
	var out []write
	for _, name := range files {
		out = append(out, func() api.Errno { return s.disk.Remove(name) })
	}
	return out
}

// laying are the writes that make a file of that name durable.
func (s *Store) laying(name func() string, p []byte) []write {
	return []write{
		func() api.Errno { return s.disk.Append(name(), p) },
		func() api.Errno { return s.disk.Sync(name()) },
	}
}

// creating writes the log of what is to be kept.
func (s *Store) creating(next *kept, all []api.Txn) write {
	return func() api.Errno {
		l, e := log.Create(s.disk, next.Log, s.size, all)
		if e == api.OK {
			next.settle(l, all)
		}
		return e
	}
}

func (s *Store) putting(next *kept) write {
	return func() api.Errno { return manifest.Put(s.disk, next.Manifest) }
}
