package snap

import (
	"strings"

	"lagoon/api"
	"lagoon/pack"
)

// letters begin every image.
const letters = "LGSN"

// sumBytes is how many bytes of an image its sum has.
const sumBytes = 4

// summed is the bytes ahead of an image's sum, if that is theirs.
func summed(image []byte) ([]byte, bool) {
	n := len(image) - sumBytes
	if n < 0 {
		return nil, false
	}
	return image[:n:n], pack.New(image[n:]).Uint32() == pack.Sum(image[:n])
}

func putBody(w *pack.Writer, last api.Zxid, nodes []api.Node, sessions []api.Session) {
	w.Raw([]byte(letters))
	putZxid(w, last)
	pack.PutList(w, sessions, putSession)
	pack.PutList(w, nodes, putNode)
}

func getBody(r *pack.Reader) (last api.Zxid, nodes []api.Node, sessions []api.Session) {
	if string(r.Raw(len(letters))) != letters {
		r.Fail(api.ErrSnap)
	}
	last = getZxid(r)
	sessions = pack.GetList(r, api.MaxSessions, getSession)
	nodes = getNodes(r)
	return last, nodes, sessions
}

// getNodes works out what is not laid: how many children a node has is counted while the others are read.
func getNodes(r *pack.Reader) []api.Node {
	children := map[string]int{}
	nodes := pack.GetList(r, api.MaxNodes, func(r *pack.Reader) api.Node {
		n := getNode(r)
		children[parentOf(n.Path)]++
		return n
	})
	for i := range nodes {
		nodes[i].Stat.Count = children[nodes[i].Path]
	}
	return nodes
}

// parentOf looks at the last slash alone: whether both are paths is seen when the tree is made. The root is nobody's child.
func parentOf(p string) string {
	at := strings.LastIndexByte(p, '/')
	if at == 0 && p != "/" {
		return "/"
	}
	return p[:max(at, 0)]
}

func putSession(w *pack.Writer, s api.Session) {
	w.Int64(s.Id)
	w.Int32(s.Timeout)
}

func getSession(r *pack.Reader) api.Session {
	return api.Session{Id: r.Int64(), Timeout: r.Int32()}
}

// putNode leaves out Size and Count, as they follow from the data and from the other nodes.
func putNode(w *pack.Writer, n api.Node) {
	w.Text(n.Path)
	w.Buffer(n.Data)
	pack.PutList(w, n.Acl, putEntry)
	putStat(w, n.Stat)
	w.Int32(n.Next)
}

func getNode(r *pack.Reader) api.Node {
	var n api.Node
	n.Path = r.Text(api.MaxPath)
	n.Data = r.Buffer(api.MaxData)
	n.Acl = pack.GetList(r, api.MaxAcl, getEntry)
	n.Stat = getStat(r)
	n.Stat.Size = len(n.Data)
	n.Next = r.Int32()
	return n
}

func putStat(w *pack.Writer, s api.Stat) {
	putZxid(w, s.Made)
	putZxid(w, s.Changed)
	putZxid(w, s.Childs)
	w.Int32(s.Version)
	w.Int32(s.Cversion)
	w.Int32(s.Aversion)
	w.Int64(s.Owner)
}

func getStat(r *pack.Reader) api.Stat {
	return api.Stat{
		Made: getZxid(r), Changed: getZxid(r), Childs: getZxid(r),
		Version: r.Int32(), Cversion: r.Int32(), Aversion: r.Int32(),
		Owner: r.Int64(),
	}
}

func putEntry(w *pack.Writer, e api.Entry) {
	w.Int8(e.Perms)
	w.Text(e.Who.Scheme)
	w.Text(e.Who.Name)
}

func getEntry(r *pack.Reader) api.Entry {
	return api.Entry{Perms: r.Int8(), Who: api.Id{Scheme: r.Text(api.MaxId), Name: r.Text(api.MaxId)}}
}

func putZxid(w *pack.Writer, z api.Zxid) {
	w.Uint32(z.Epoch)
	w.Uint32(z.N)
}

func getZxid(r *pack.Reader) api.Zxid {
	return api.Zxid{Epoch: r.Uint32(), N: r.Uint32()}
}
