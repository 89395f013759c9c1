package ztree

import (
	"slices"

	"lagoon/api"
)

func (w *work) getData(r api.Request) api.Result {
	n, e := w.node(r.Path, api.PermRead)
	if e != api.OK {
		return refused(e)
	}
	return api.Result{Stat: n.Stat, Data: ownBytes(n.Data)}
}

func (w *work) exists(r api.Request) api.Result {
	n, e := w.node(r.Path)
	return api.Result{Err: e, Stat: n.Stat}
}

func (w *work) list(r api.Request) api.Result {
	n, e := w.node(r.Path, api.PermRead)
	if e != api.OK {
		return refused(e)
	}
	return api.Result{Stat: n.Stat, Names: w.tree.children(n.Path)}
}

func (w *work) getAcl(r api.Request) api.Result {
	n, e := w.node(r.Path, api.PermRead, api.PermAdmin)
	if e != api.OK {
		return refused(e)
	}
	return api.Result{Stat: n.Stat, Acl: slices.Clone(n.Acl)}
}
