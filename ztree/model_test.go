package ztree_test

import (
	"bytes"
	"math"
	"slices"
	"strings"

	"lagoon/acl"
	"lagoon/api"
	"lagoon/path"
	"lagoon/txn"
)

// model says the chapter's words once more: nodes and sessions lie in lists, a Multi is done with a copy of all, and each kind has its reasons in a row.
type model struct {
	last     api.Zxid
	nodes    []api.Node
	sessions []api.Session
}

func newModel() *model { return &model{nodes: []api.Node{{Path: "/", Acl: everybody()}}} }

func (m *model) copied() *model {
	c := &model{last: m.last, sessions: slices.Clone(m.sessions)}
	for _, n := range m.nodes {
		n.Data, n.Acl = bytes.Clone(n.Data), slices.Clone(n.Acl)
		c.nodes = append(c.nodes, n)
	}
	return c
}

// at is the node at a path; nil, if there is none.
func (m *model) at(p string) *api.Node {
	for i := range m.nodes {
		if m.nodes[i].Path == p {
			return &m.nodes[i]
		}
	}
	return nil
}

func (m *model) upOf(p string) *api.Node { return m.at(path.Parent(p)) }

func (m *model) hasSession(n int64) bool {
	return slices.ContainsFunc(m.sessions, func(s api.Session) bool { return s.Id == n })
}

// reason is one for which something is refused; it is looked at only where none ahead of it holds.
type reason struct {
	e     api.Errno
	holds func() bool
}

func firstOf(l []reason) api.Errno {
	for _, r := range l {
		if r.holds() {
			return r.e
		}
	}
	return api.OK
}

func isPath(p string) bool { _, e := path.Check(p); return e == api.OK }

func on(v int32) int32 {
	switch v {
	case math.MaxInt32:
		return math.MinInt32
	case -2:
		return 0
	}
	return v + 1
}

func (m *model) apply(x api.Txn) (api.Result, []api.Change) {
	if txn.Check(x) != api.OK || x.Zxid == zero || txn.Compare(x.Zxid, m.last) <= 0 {
		return api.Result{Err: api.ErrArg}, nil
	}
	m.last = x.Zxid
	if x.Req.Session != 0 && !m.hasSession(x.Req.Session) {
		return api.Result{Err: api.ErrSession}, nil
	}
	if x.Req.Kind == api.Multi {
		return m.all(x)
	}
	return m.one(x)
}

func (m *model) all(x api.Txn) (api.Result, []api.Change) {
	trial := m.copied()
	var done api.Result
	var changes []api.Change
	for i, op := range x.Req.Ops {
		op.Session, op.Who = x.Req.Session, x.Req.Who
		r, l := trial.one(api.Txn{Zxid: x.Zxid, Req: op})
		if r.Err != api.OK {
			failed := api.Result{Err: r.Err}
			for j := range x.Req.Ops {
				failed.Results = append(failed.Results, api.Result{Err: api.ErrRolled})
				if i == j {
					failed.Results[j].Err = r.Err
				}
			}
			return failed, nil
		}
		done.Results = append(done.Results, r)
		changes = append(changes, l...)
	}
	*m = *trial
	return done, changes
}

func (m *model) one(x api.Txn) (api.Result, []api.Change) {
	r := x.Req
	may := func(n *api.Node, perm int8) bool { return acl.Allows(n.Acl, perm, r.Who) }
	noPath := reason{api.ErrPath, func() bool { return !isPath(r.Path) }}
	noNode := reason{api.ErrNoNode, func() bool { return m.at(r.Path) == nil }}
	mayNot := func(perm int8) reason {
		return reason{api.ErrAuth, func() bool { return !may(m.at(r.Path), perm) }}
	}
	other := reason{api.ErrVersion, func() bool { return r.Version != -1 && r.Version != m.at(r.Path).Stat.Version }}
	noList := reason{api.ErrAcl, func() bool { _, e := acl.Fix(r.Acl, r.Who); return e != api.OK }}
	var reasons []reason
	do := func() (api.Result, []api.Change) { return api.Result{}, nil }
	switch r.Kind {
	case api.Create:
		return m.create(x)
	case api.Delete:
		reasons = []reason{
			{api.ErrPath, func() bool { return !isPath(r.Path) || r.Path == "/" }},
			noNode,
			{api.ErrAuth, func() bool { return !may(m.upOf(r.Path), api.PermDelete) }},
			other,
			{api.ErrNotEmpty, func() bool { return m.childrenOf(r.Path) > 0 }},
		}
		do = func() (api.Result, []api.Change) { return api.Result{}, m.gone(r.Path, x.Zxid) }
	case api.SetData:
		reasons = []reason{noPath, noNode, mayNot(api.PermWrite), other}
		do = func() (api.Result, []api.Change) {
			n := m.at(r.Path)
			n.Data, n.Stat.Size, n.Stat.Changed, n.Stat.Version = bytes.Clone(r.Data), len(r.Data), x.Zxid, on(n.Stat.Version)
			return api.Result{Stat: n.Stat}, changed(r.Path)
		}
	case api.SetAcl:
		otherAcl := reason{api.ErrVersion, func() bool { return r.Version != -1 && r.Version != m.at(r.Path).Stat.Aversion }}
		reasons = []reason{noPath, noNode, mayNot(api.PermAdmin), otherAcl, noList}
		do = func() (api.Result, []api.Change) {
			n := m.at(r.Path)
			n.Acl, _ = acl.Fix(r.Acl, r.Who)
			n.Stat.Aversion = on(n.Stat.Aversion)
			return api.Result{Stat: n.Stat}, nil
		}
	case api.Check:
		reasons = []reason{noPath, noNode, mayNot(api.PermRead), other}
	case api.Open:
		reasons = []reason{{api.ErrLarge, func() bool { return len(m.sessions) == api.MaxSessions }}}
		do = func() (api.Result, []api.Change) {
			n := int64(x.Zxid.Epoch)<<32 + int64(x.Zxid.N)
			m.sessions = append(m.sessions, api.Session{Id: n, Timeout: r.Timeout})
			return api.Result{Session: n}, nil
		}
	case api.Close:
		do = func() (api.Result, []api.Change) { return api.Result{}, m.ended(r.Session, x.Zxid) }
	}
	if e := firstOf(reasons); e != api.OK {
		return api.Result{Err: e}, nil
	}
	return do()
}

func (m *model) create(x api.Txn) (api.Result, []api.Change) {
	r := x.Req
	numbered := func(n int32) string { p, _ := path.Sequence(r.Path, n); return p }
	p := r.Path
	if r.Sequence {
		p = numbered(0)
	}
	up := m.upOf(p)
	if r.Sequence && up != nil {
		p = numbered(up.Next)
	}
	e := firstOf([]reason{
		{api.ErrPath, func() bool { return !r.Sequence && !isPath(r.Path) }},
		{api.ErrExists, func() bool { return !r.Sequence && r.Path == "/" }},
		{api.ErrPath, func() bool { return r.Sequence && numbered(0) == "" }},
		{api.ErrNoNode, func() bool { return up == nil }},
		{api.ErrAuth, func() bool { return !acl.Allows(up.Acl, api.PermCreate, r.Who) }},
		{api.ErrEphem, func() bool { return up.Stat.Owner != 0 }},
		{api.ErrSession, func() bool { return r.Ephemeral && r.Session == 0 }},
		{api.ErrPath, func() bool { return p == "" }},
		{api.ErrExists, func() bool { return m.at(p) != nil }},
		{api.ErrAcl, func() bool { _, e := acl.Fix(r.Acl, r.Who); return e != api.OK }},
		{api.ErrLarge, func() bool { return len(m.nodes) == api.MaxNodes }},
	})
	if e != api.OK {
		return api.Result{Err: e}, nil
	}
	list, _ := acl.Fix(r.Acl, r.Who)
	n := api.Node{Path: p, Data: bytes.Clone(r.Data), Acl: list}
	n.Stat.Made, n.Stat.Changed, n.Stat.Childs, n.Stat.Size = x.Zxid, x.Zxid, x.Zxid, len(r.Data)
	if r.Ephemeral {
		n.Stat.Owner = r.Session
	}
	if r.Sequence {
		up.Next++
	}
	up.Stat.Cversion, up.Stat.Childs, up.Stat.Count = on(up.Stat.Cversion), x.Zxid, up.Stat.Count+1
	changes := made(p, up.Path)
	m.nodes = append(m.nodes, n)
	slices.SortFunc(m.nodes, func(a, b api.Node) int { return strings.Compare(a.Path, b.Path) })
	return api.Result{Path: p, Stat: n.Stat}, changes
}

func (m *model) childrenOf(p string) int {
	many := 0
	for _, n := range m.nodes {
		if path.Parent(n.Path) == p {
			many++
		}
	}
	return many
}

func (m *model) gone(p string, at api.Zxid) []api.Change {
	up := m.upOf(p)
	up.Stat.Cversion, up.Stat.Childs, up.Stat.Count = on(up.Stat.Cversion), at, up.Stat.Count-1
	l := gone(p, up.Path)
	m.nodes = slices.DeleteFunc(m.nodes, func(n api.Node) bool { return n.Path == p })
	return l
}

func (m *model) ended(session int64, at api.Zxid) []api.Change {
	var changes []api.Change
	for _, p := range slices.Backward(m.owned(session)) {
		changes = append(changes, m.gone(p, at)...)
	}
	m.sessions = slices.DeleteFunc(m.sessions, func(s api.Session) bool { return s.Id == session })
	return changes
}

func (m *model) owned(session int64) []string {
	var l []string
	for _, n := range m.nodes {
		if session != 0 && n.Stat.Owner == session {
			l = append(l, n.Path)
		}
	}
	return l
}

func (m *model) ask(r api.Request) api.Result {
	n := m.at(r.Path)
	may := func(perm int8) bool { return acl.Allows(n.Acl, perm, r.Who) }
	e := firstOf([]reason{
		{api.ErrTxn, func() bool { return txn.CheckRequest(r) != api.OK || r.Kind < 9 }},
		{api.ErrSession, func() bool { return r.Session != 0 && !m.hasSession(r.Session) }},
		{api.ErrPath, func() bool { return !isPath(r.Path) }},
		{api.ErrNoNode, func() bool { return n == nil }},
		{api.ErrAuth, func() bool { return (r.Kind == api.GetData || r.Kind == api.List) && !may(api.PermRead) }},
		{api.ErrAuth, func() bool { return r.Kind == api.GetAcl && !may(api.PermRead) && !may(api.PermAdmin) }},
	})
	if e != api.OK {
		return api.Result{Err: e}
	}
	x := api.Result{Stat: n.Stat}
	switch r.Kind {
	case api.GetData:
		x.Data = n.Data
	case api.GetAcl:
		x.Acl = n.Acl
	case api.List:
		for _, c := range m.nodes {
			if path.Parent(c.Path) == r.Path {
				x.Names = append(x.Names, path.Base(c.Path))
			}
		}
	}
	return x
}
