package ztree

import (
	"slices"

	"lagoon/acl"
	"lagoon/api"
	"lagoon/path"
)

// work is one request while it is done: for whom and by which zxid, what changed by it so far, and how that is taken back.
type work struct {
	tree    *Tree
	zxid    api.Zxid
	session int64
	who     []api.Id
	changes []api.Change
	undo    []func()
}

// answer does a request that may be, with the zxid of its transaction; what reads needs none.
func (t *Tree) answer(z api.Zxid, r api.Request) (api.Result, []api.Change) {
	if r.Session != 0 && !t.isSession(r.Session) {
		return refused(api.ErrSession), nil
	}
	w := &work{tree: t, zxid: z, session: r.Session, who: r.Who}
	result := w.do(r)
	return result, w.changes
}

// do does a request, or one of a Multi's, whose Session and Who are the work's.
func (w *work) do(r api.Request) api.Result { return w.ways()[r.Kind](r) }

// ways is what is done with each kind.
func (w *work) ways() []func(api.Request) api.Result {
	return []func(api.Request) api.Result{
		api.Create:  w.create,
		api.Delete:  w.remove,
		api.SetData: w.setData,
		api.SetAcl:  w.setAcl,
		api.Check:   w.check,
		api.Multi:   w.doAll,
		api.Open:    w.openSession,
		api.Close:   w.closeSession,
		api.GetData: w.getData,
		api.Exists:  w.exists,
		api.List:    w.list,
		api.GetAcl:  w.getAcl,
	}
}

// refused is the result of what can't be done.
func refused(e api.Errno) api.Result { return api.Result{Err: e} }

// node is the node at a path, if they may do with it one of what is named; where nothing is named nothing is needed.
func (w *work) node(p string, perms ...int8) (api.Node, api.Errno) {
	if _, e := path.Check(p); e != api.OK {
		return api.Node{}, api.ErrPath
	}
	n, there := w.tree.nodes[p]
	if !there {
		return api.Node{}, api.ErrNoNode
	}
	may := func(perm int8) bool { return w.may(n, perm) }
	if len(perms) > 0 && !slices.ContainsFunc(perms, may) {
		return api.Node{}, api.ErrAuth
	}
	return n, api.OK
}

func (w *work) may(n api.Node, perm int8) bool { return acl.Allows(n.Acl, perm, w.who) }

// put lays a node at its path; one that lies there gives way.
func (w *work) put(n api.Node) {
	w.keep(n.Path)
	w.tree.nodes[n.Path] = n
}

// drop takes away what lies at a path.
func (w *work) drop(p string) {
	w.keep(p)
	delete(w.tree.nodes, p)
}

// keep notes how a path gets back what lies there now.
func (w *work) keep(p string) {
	nodes := w.tree.nodes
	old, there := nodes[p]
	back := func() { delete(nodes, p) }
	if there {
		back = func() { nodes[p] = old }
	}
	w.undo = append(w.undo, back)
}

// takeBack makes the tree what it was. Of a path that was put several times its first state is the one that counts, so the last step goes first.
func (w *work) takeBack() {
	for _, back := range slices.Backward(w.undo) {
		back()
	}
	w.undo, w.changes = nil, nil
}

func (w *work) tell(kind int8, p string) {
	w.changes = append(w.changes, api.Change{Kind: kind, Path: p})
}

// lose takes a node away that nothing holds any more.
func (w *work) lose(p string) {
	w.drop(p)
	w.tell(api.Gone, p)
	w.count(w.tree.nodes[path.Parent(p)], -1)
}

// count is what its children's coming and going does to a node.
func (w *work) count(up api.Node, by int) {
	up.Stat.Cversion = behind(up.Stat.Cversion)
	up.Stat.Childs = w.zxid
	up.Stat.Count += by
	w.put(up)
	w.tell(api.Childs, up.Path)
}
