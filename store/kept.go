package store

import (
	"math"
	"slices"
	"strconv"

	"lagoon/api"
	"lagoon/log"
	"lagoon/manifest"
	"lagoon/ztree"
)

// kept is what changes whole: the manifest, and what the files that it names hold.
type kept struct {
	api.Manifest
	tree *ztree.Tree // the snapshot
	log  *log.Log
	last api.Zxid // the history's: going through the log for it would take a copy of all its transactions
}

// imageFile is the name of the file that has the snapshot's image; empty, as no file's is, if there is none.
func (k *kept) imageFile() string {
	if k.Snap == 0 {
		return ""
	}
	return "snap." + strconv.FormatInt(k.Snap, 16)
}

// names tells whether the manifest names this file.
func (k *kept) names(file string) bool {
	return file == manifest.File || file == k.imageFile() || slices.Contains(k.log.Names(), file)
}

// split is the log's transactions up to a zxid and behind it; false, if that does not stand in the history.
func (k *kept) split(at api.Zxid) (ahead, behind []api.Txn, stands bool) {
	all := k.log.All()
	if at == k.tree.Last() {
		return nil, all, true
	}
	for i, t := range all {
		if t.Zxid == at {
			return all[:i+1], all[i+1:], true
		}
	}
	return nil, nil, false
}

// numbered is the same with a log of the next number, that is still to be written; ErrSpent, if there is no such number.
func (k *kept) numbered() (*kept, api.Errno) {
	most := max(k.Snap, k.Log)
	if most == math.MaxInt64 {
		return nil, api.ErrSpent
	}
	next := *k
	next.Log = most + 1
	return &next, api.OK
}

// settle takes the log that was found or written for it.
func (k *kept) settle(l *log.Log, all []api.Txn) {
	k.log, k.last = l, k.tree.Last()
	for _, t := range all {
		k.last = t.Zxid
	}
}
