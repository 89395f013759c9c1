package ztree

import (
	"slices"

	"lagoon/acl"
	"lagoon/api"
	"lagoon/path"
	"lagoon/txn"
)

// anyVersion stands in a request that fits every version, so that no node comes to have it.
const anyVersion int32 = -1

// behind is the version behind another one.
func behind(v int32) int32 {
	v++
	if v == anyVersion {
		v++
	}
	return v
}

func fits(version, asked int32) bool { return asked == anyVersion || asked == version }

func (w *work) create(r api.Request) api.Result {
	up, e := w.parentFor(r)
	if e != api.OK {
		return refused(e)
	}
	p, e := placeOf(r, up.Next)
	if e != api.OK {
		return refused(e)
	}
	if _, there := w.tree.nodes[p]; there {
		return refused(api.ErrExists)
	}
	list, e := acl.Fix(r.Acl, w.who)
	if e != api.OK {
		return refused(e)
	}
	if len(w.tree.nodes) >= api.MaxNodes {
		return refused(api.ErrLarge)
	}
	n := api.Node{Path: p, Data: ownBytes(r.Data), Acl: list}
	n.Stat = api.Stat{Made: w.zxid, Changed: w.zxid, Childs: w.zxid, Size: len(r.Data)}
	if r.Ephemeral {
		n.Stat.Owner = w.session
	}
	w.put(n)
	w.tell(api.Made, p)
	if r.Sequence {
		up.Next++
	}
	w.count(up, 1)
	return api.Result{Path: p, Stat: n.Stat}
}

// parentFor is the node below which a Create may make one. The number of a sequence is the parent's to tell, so that 0 stands for it till then.
func (w *work) parentFor(r api.Request) (api.Node, api.Errno) {
	p, e := placeOf(r, 0)
	if e != api.OK {
		return api.Node{}, e
	}
	if p == root {
		return api.Node{}, api.ErrExists
	}
	up, e := w.node(path.Parent(p), api.PermCreate)
	if e != api.OK {
		return api.Node{}, e
	}
	if up.Stat.Owner != 0 {
		return api.Node{}, api.ErrEphem
	}
	if r.Ephemeral && w.session == 0 {
		return api.Node{}, api.ErrSession
	}
	return up, api.OK
}

// placeOf is the path that a Create asks for, where its parent's next number is this.
func placeOf(r api.Request, next int32) (string, api.Errno) {
	if r.Sequence {
		return path.Sequence(r.Path, next)
	}
	_, e := path.Check(r.Path)
	return r.Path, e
}

func (w *work) remove(r api.Request) api.Result {
	if r.Path == root {
		return refused(api.ErrPath)
	}
	n, e := w.node(r.Path)
	if e != api.OK {
		return refused(e)
	}
	switch {
	case !w.may(w.tree.nodes[path.Parent(n.Path)], api.PermDelete):
		return refused(api.ErrAuth)
	case !fits(n.Stat.Version, r.Version):
		return refused(api.ErrVersion)
	case n.Stat.Count > 0:
		return refused(api.ErrNotEmpty)
	}
	w.lose(n.Path)
	return api.Result{}
}

func (w *work) setData(r api.Request) api.Result {
	n, e := w.node(r.Path, api.PermWrite)
	if e != api.OK {
		return refused(e)
	}
	if !fits(n.Stat.Version, r.Version) {
		return refused(api.ErrVersion)
	}
	n.Data = ownBytes(r.Data)
	n.Stat.Size = len(r.Data)
	n.Stat.Version = behind(n.Stat.Version)
	n.Stat.Changed = w.zxid
	w.put(n)
	w.tell(api.Changed, n.Path)
	return api.Result{Stat: n.Stat}
}

func (w *work) setAcl(r api.Request) api.Result {
	n, e := w.node(r.Path, api.PermAdmin)
	if e != api.OK {
		return refused(e)
	}
	if !fits(n.Stat.Aversion, r.Version) {
		return refused(api.ErrVersion)
	}
	list, e := acl.Fix(r.Acl, w.who)
	if e != api.OK {
		return refused(e)
	}
	n.Acl = list
	n.Stat.Aversion = behind(n.Stat.Aversion)
	w.put(n)
	return api.Result{Stat: n.Stat}
}

func (w *work) check(r api.Request) api.Result {
	n, e := w.node(r.Path, api.PermRead)
	if e != api.OK {
		return refused(e)
	}
	if !fits(n.Stat.Version, r.Version) {
		return refused(api.ErrVersion)
	}
	return api.Result{}
}

func (w *work) openSession(r api.Request) api.Result {
	if len(w.tree.sessions) >= api.MaxSessions {
		return refused(api.ErrLarge)
	}
	id, _ := txn.Pack(w.zxid) // its epoch is no greater than may be
	w.tree.sessions[id] = r.Timeout
	return api.Result{Session: id}
}

func (w *work) closeSession(r api.Request) api.Result {
	for _, p := range slices.Backward(w.tree.Owned(r.Session)) {
		w.lose(p)
	}
	delete(w.tree.sessions, r.Session)
	return api.Result{}
}

// doAll does the requests of a Multi, or none of them.
func (w *work) doAll(r api.Request) api.Result {
	done := api.Result{Results: make([]api.Result, len(r.Ops))}
ops:
	for i, op := range r.Ops {
		switch one := w.do(op); one.Err {
		case api.OK:
			done.Results[i] = one
		default:
			w.takeBack()
			done = api.Result{Err: one.Err, Results: rolled(len(r.Ops), i, one.Err)}
			break ops
		}
	}
	return done
}

// rolled is the results of a Multi's requests, if one of them was refused.
func rolled(many, at int, e api.Errno) []api.Result {
	l := slices.Repeat([]api.Result{refused(api.ErrRolled)}, many)
	l[at] = refused(e)
	return l
}
