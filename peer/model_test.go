package peer_test

import (
	"math"
	"slices"

	"lagoon/api"
	"lagoon/choose"
	"lagoon/digest"
	"lagoon/disk"
	"lagoon/learn"
	"lagoon/packet"
	"lagoon/snap"
	"lagoon/store"
	"lagoon/stream"
	"lagoon/txn"
	"lagoon/ztree"
)

// model is what the chapter says of a server: its words one by one, over a disk of its own. What it asks the layers below is what the chapter says that is asked of them; quorums, acknowledgements, watches and clocks it reckons by the words of their chapters.
type model struct {
	c         api.Config
	me        int8
	d         *disk.Disk
	st        *store.Store
	tree      *ztree.Tree
	committed api.Zxid
	state     int8
	try       uint32
	number    int64
	waits     map[int64]bool
	board     []api.Watch
	l         *leaderModel
	f         *followerModel
	facts     []api.Fact
	sends     []api.Send
}

type leaderModel struct {
	number   api.Conn
	e        uint32
	promises []promiseModel
	initial  bool
	leaders  map[int8]bool
	acks     map[int8]api.Zxid
	n        uint32
	clock    *clockModel
	of       map[int8]*otherModel
}

type promiseModel struct {
	who     int8
	current uint32
	last    api.Zxid
}

type otherModel struct {
	conn    api.Conn
	a       uint32
	from    int64
	to      int64
	stands  int
	told, h api.Zxid
}

type followerModel struct {
	whom     int8
	conn     api.Conn
	lead     api.Conn
	from, to int64
	stands   int
	learner  *learn.Learner
}

type clockModel struct {
	tick     int
	due      map[int64]int
	timeouts map[int64]int32
}

// over is the end of a step.
type over struct{}

// isQuorum reckons by chapter 20's words.
func isQuorum(c api.Config, servers []int8) bool {
	whole, part := map[int]int{}, map[int]int{}
	for n, weight := range c.Weights {
		whole[c.Groups[n]] += weight
		if slices.Contains(servers, int8(n)) {
			part[c.Groups[n]] += weight
		}
	}
	count, held := 0, 0
	for group := range whole {
		if whole[group] > 0 {
			count++
			if 2*part[group] > whole[group] {
				held++
			}
		}
	}
	return 2*held > count
}

func startModel(c api.Config, me int8, d *disk.Disk) (*model, api.Output, api.Errno) {
	if _, e := d.Read("x"); e == api.ErrArg {
		return nil, api.Output{}, api.ErrArg
	}
	if c.Cache < 0 || c.Cache > 64 || c.Chunk < 1 || c.Chunk > 4096 || c.Segment < 1 || c.Segment > 64 || c.LastEpoch < 1 || c.LastEpoch > 1<<31-1 || c.LastCounter == 0 {
		return nil, api.Output{}, api.ErrArg
	}
	sum := 0
	bad := len(c.Weights) < 1 || len(c.Weights) > 7 || len(c.Groups) != len(c.Weights)
	for i := 0; i < len(c.Weights) && !bad; i++ {
		bad = c.Weights[i] < 0 || c.Weights[i] > 100 || c.Groups[i] < 0 || c.Groups[i] > 6
		sum += c.Weights[i]
	}
	if bad || sum == 0 {
		return nil, api.Output{}, api.ErrQuorum
	}
	if me < 0 || int(me) >= len(c.Weights) {
		return nil, api.Output{}, api.ErrServer
	}
	st, e := store.Open(d, c.Segment)
	if e != api.OK {
		return nil, api.Output{}, e
	}
	m := &model{c: c, me: me, d: d, st: st, tree: st.Tree(), state: api.Looking, waits: map[int64]bool{}}
	m.c.Weights, m.c.Groups = slices.Clone(c.Weights), slices.Clone(c.Groups)
	m.committed = st.Durable().Snap
	return m, api.Output{Facts: []api.Fact{{Kind: api.FactUpAgain, Server: me, Zxid: st.Durable().Last, Snap: st.Durable().Snap}}}, api.OK
}

func (m *model) tell(f api.Fact) {
	f.Server = m.me
	m.facts = append(m.facts, f)
}

func (m *model) ends() { panic(over{}) }

func (m *model) write(e api.Errno) {
	if !m.d.On() && e != api.OK {
		m.ends()
	}
	if e != api.OK {
		m.givesUp()
		m.ends()
	}
}

func (m *model) serves() bool {
	return m.l != nil && m.l.clock != nil || m.f != nil && m.f.stands == 4
}

func (m *model) givesUp() {
	if m.state == api.Looking {
		return
	}
	m.state, m.l, m.f = api.Looking, nil, nil
	m.tell(api.Fact{Kind: api.FactGaveUp})
	for n := range m.number {
		if m.waits[n+1] {
			m.tell(api.Fact{Kind: api.FactAnswered, Number: n + 1, Result: api.Result{Err: api.ErrLooking}})
		}
	}
	m.waits = map[int64]bool{}
	for _, w := range m.board {
		m.tell(api.Fact{Kind: api.FactLost, Fired: api.Fired{Watch: w}})
	}
	m.board = nil
}

// meets is chapter 18's table.
func meets(kind, change int8, at, changed string) bool {
	switch kind {
	case api.WatchData:
		return changed == at && change != api.Childs
	case api.WatchChild:
		return changed == at && (change == api.Gone || change == api.Childs)
	case api.WatchStay:
		return changed == at
	default:
		below := at == "/" || len(changed) > len(at) && changed[:len(at)+1] == at+"/"
		return change != api.Childs && (changed == at || below)
	}
}

func (m *model) fire(c api.Change) {
	var stay []api.Watch
	for _, w := range m.board {
		met := meets(w.Kind, c.Kind, w.Path, c.Path)
		if met {
			m.tell(api.Fact{Kind: api.FactFired, Fired: api.Fired{Watch: w, Change: c}})
		}
		if !met || w.Kind > api.WatchChild {
			stay = append(stay, w)
		}
	}
	m.board = stay
}

func (m *model) delivers(z api.Zxid) {
	for _, x := range m.st.Log() {
		if txn.Compare(x.Zxid, m.tree.Last()) <= 0 || txn.Compare(x.Zxid, z) > 0 {
			continue
		}
		r, changes := m.tree.Apply(x)
		m.tell(api.Fact{Kind: api.FactDelivered, Txn: x, Result: r})
		for _, c := range changes {
			m.fire(c)
		}
		if x.From.Server == m.me && x.From.Boot == m.st.Durable().Boot && m.waits[x.From.Number] {
			delete(m.waits, x.From.Number)
			m.tell(api.Fact{Kind: api.FactAnswered, Number: x.From.Number, Result: r})
		}
		if m.l != nil && m.l.clock != nil && r.Err == api.OK {
			switch x.Req.Kind {
			case api.Open:
				m.l.clock.begins(r.Session, x.Req.Timeout)
			case api.Close:
				m.l.clock.ends(x.Req.Session)
			}
		}
	}
}

func (k *clockModel) begins(id int64, timeout int32) {
	k.timeouts[id] = timeout
	k.due[id] = 0
	for k.due[id] < k.tick+int(timeout) {
		k.due[id] += 4
	}
}

func (k *clockModel) touch(id int64) {
	if timeout, is := k.timeouts[id]; is {
		k.begins(id, timeout)
	}
}

func (k *clockModel) ends(id int64) {
	delete(k.timeouts, id)
	delete(k.due, id)
}

func (k *clockModel) ticks() []int64 {
	k.tick++
	var out []int64
	for id, due := range k.due {
		if due == k.tick {
			out = append(out, id)
		}
	}
	for _, id := range out {
		k.ends(id)
	}
	slices.Sort(out)
	return out
}

// Do is a step.
func (m *model) Do(in api.Input) (api.Output, api.Errno) {
	if m.state == api.Down || !m.d.On() {
		m.state = api.Down
		return api.Output{}, api.ErrDown
	}
	if !m.isInput(in) {
		return api.Output{}, api.ErrArg
	}
	e := m.steps(in)
	out := api.Output{Facts: m.facts, Sends: m.sends}
	m.facts, m.sends = nil, nil
	if !m.d.On() {
		m.state = api.Down
		return api.Output{Facts: out.Facts}, api.ErrDown
	}
	if e != api.OK {
		return api.Output{}, e
	}
	return out, e
}

func (m *model) isInput(in api.Input) bool {
	server := in.Other >= 0 && int(in.Other) < len(m.c.Weights)
	no := map[string]bool{"other": in.Other == 0, "bytes": len(in.Bytes) == 0, "session": in.Session == 0, "req": txn.Same(api.Txn{Req: in.Req}, api.Txn{})}
	all := func(names ...string) bool {
		return !slices.ContainsFunc(names, func(name string) bool { return !no[name] })
	}
	switch in.Kind {
	case 1:
		return server && all("bytes", "session", "req")
	case 2:
		return server && all("session", "req")
	case 3:
		return all("other", "bytes", "session")
	case 4:
		return in.Session > 0 && all("other", "bytes", "req")
	case 5, 6, 7:
		return all("other", "bytes", "session", "req")
	}
	return false
}

func (m *model) steps(in api.Input) (e api.Errno) {
	defer func() {
		if r := recover(); r != nil && r != any(over{}) {
			panic(r)
		}
	}()
	boot := m.st.Durable().Boot
	switch in.Kind {
	case api.InFollow:
		if in.Other == m.me && m.c.Weights[m.me] == 0 {
			return api.ErrServer
		}
		if m.try == math.MaxUint32 {
			return api.ErrSpent
		}
		m.givesUp()
		m.try++
		if in.Other == m.me {
			m.state = api.Leading
			m.l = &leaderModel{number: api.Conn{Boot: boot, Try: m.try}, leaders: map[int8]bool{}, acks: map[int8]api.Zxid{}, of: map[int8]*otherModel{}}
			m.discovery()
			return api.OK
		}
		m.state = api.Following
		m.f = &followerModel{whom: in.Other, conn: api.Conn{Boot: boot, Try: m.try}, stands: 1}
		m.up(api.Packet{Kind: api.PInfo, Epoch: m.st.Durable().Accepted})
	case api.InWrite:
		if txn.CheckRequest(in.Req) != api.OK || in.Req.Kind > 8 {
			return api.ErrTxn
		}
		if !m.serves() {
			return api.ErrLooking
		}
		m.number++
		m.waits[m.number] = true
		from := api.Origin{Server: m.me, Boot: boot, Number: m.number}
		if m.l != nil {
			m.proposes(in.Req, from)
		} else {
			m.up(api.Packet{Kind: api.PForward, Txn: api.Txn{From: from, Req: in.Req}})
		}
	case api.InPing, api.InSnap:
		if !m.serves() {
			return api.ErrLooking
		}
		if in.Kind == api.InSnap {
			m.write(m.st.Snapshot(m.tree))
		} else if m.l != nil {
			m.l.clock.touch(in.Session)
		} else {
			m.up(api.Packet{Kind: api.PPing, Session: in.Session})
		}
	case api.InTick:
		if m.l == nil || m.l.clock == nil {
			return api.OK
		}
		for _, id := range m.l.clock.ticks() {
			m.tell(api.Fact{Kind: api.FactExpired, Session: id})
			m.proposes(api.Request{Kind: api.Close, Session: id}, api.Origin{Server: m.me, Boot: boot})
		}
	case api.InGiveUp:
		m.givesUp()
	case api.InPacket:
		p, e := packet.Read(in.Bytes)
		if e != api.OK || in.Other == m.me {
			return api.OK
		}
		if m.l != nil {
			m.leaderTakes(in.Other, p)
		} else if m.f != nil {
			m.followerTakes(in.Other, p)
		}
	}
	return api.OK
}

// up sends to the leader.
func (m *model) up(p api.Packet) {
	p.Conn, p.Lead, p.Place = m.f.conn, m.f.lead, m.f.to
	m.f.to++
	m.put(m.f.whom, p)
}

// down sends to a follower.
func (m *model) down(s int8, p api.Packet) {
	o := m.l.of[s]
	p.Conn, p.Lead, p.Place = o.conn, m.l.number, o.to
	o.to++
	m.put(s, p)
}

func (m *model) put(to int8, p api.Packet) {
	b, e := packet.Write(p)
	if e != api.OK {
		panic("a packet that may not be")
	}
	m.sends = append(m.sends, api.Send{To: to, Bytes: b})
}

// rising are the servers that stand so.
func (m *model) rising(stands ...int) []int8 {
	var out []int8
	for n := range int8(len(m.c.Weights)) {
		if o := m.l.of[n]; o != nil && slices.Contains(stands, o.stands) {
			out = append(out, n)
		}
	}
	return out
}

func (m *model) leaderTakes(s int8, p api.Packet) {
	o := m.l.of[s]
	if p.Kind == api.PInfo {
		if o != nil && (p.Conn.Boot < o.conn.Boot || p.Conn.Boot == o.conn.Boot && p.Conn.Try <= o.conn.Try) {
			return
		}
		m.l.of[s] = &otherModel{conn: p.Conn, a: p.Epoch, stands: 1, from: 1}
		if m.l.e == 0 {
			m.discovery()
		} else {
			m.down(s, api.Packet{Kind: api.PEpoch, Epoch: m.l.e})
		}
		return
	}
	if o == nil || p.Conn != o.conn || p.Lead != m.l.number || p.Place != o.from {
		return
	}
	waits := false
	switch p.Kind {
	case api.PAckEpoch:
		waits = o.stands == 1 && m.l.e != 0
	case api.PAckLeader:
		waits = o.stands == 3
	case api.PAck:
		waits = o.stands >= 4
	case api.PForward, api.PPing:
		waits = o.stands == 5
	}
	if !waits {
		return
	}
	o.from++
	switch p.Kind {
	case api.PAckEpoch:
		if p.Epoch != m.l.e {
			return
		}
		o.stands, o.told = 2, p.Zxid
		if p.Counted {
			m.l.promises = append(m.l.promises, promiseModel{s, p.Current, p.Zxid})
		}
		if m.l.initial {
			m.brings(s)
		} else {
			m.initialHistory()
		}
	case api.PAckLeader:
		if p.Epoch != m.l.e {
			return
		}
		o.stands = 4
		m.l.leaders[s] = true
		m.acks(s, o.h)
		m.established()
	case api.PAck:
		if txn.Compare(p.Zxid, m.st.Durable().Last) > 0 {
			return
		}
		m.acks(s, p.Zxid)
		m.commits()
	case api.PForward:
		m.proposes(p.Txn.Req, p.Txn.From)
	case api.PPing:
		m.l.clock.touch(p.Session)
	}
}

func (m *model) acks(s int8, z api.Zxid) {
	if had, is := m.l.acks[s]; !is || txn.Compare(z, had) > 0 {
		m.l.acks[s] = z
	}
}

func (m *model) discovery() {
	set, a := []int8{m.me}, m.st.Durable().Accepted
	for _, s := range m.rising(1, 2, 3, 4, 5) {
		set = append(set, s)
		a = max(a, m.l.of[s].a)
	}
	if !isQuorum(m.c, set) {
		return
	}
	if a+1 > m.c.LastEpoch {
		m.givesUp()
		m.ends()
	}
	m.write(m.st.Accept(a + 1))
	m.l.e = a + 1
	m.l.promises = append(m.l.promises, promiseModel{m.me, m.st.Durable().Current, m.st.Durable().Last})
	for _, s := range m.rising(1, 2, 3, 4, 5) {
		m.down(s, api.Packet{Kind: api.PEpoch, Epoch: m.l.e})
	}
	m.initialHistory()
}

func (m *model) initialHistory() {
	if m.l.initial {
		return
	}
	set, above := []int8{m.me}, false
	own := m.st.Durable()
	for _, p := range m.l.promises {
		set = append(set, p.who)
		above = above || p.current > own.Current || p.current == own.Current && txn.Compare(p.last, own.Last) > 0
	}
	if !isQuorum(m.c, set) {
		return
	}
	if above {
		m.givesUp()
		m.ends()
	}
	m.write(m.st.Lead(m.l.e))
	m.l.initial = true
	m.tell(api.Fact{Kind: api.FactInitial, Epoch: m.l.e, Zxid: own.Last, Snap: own.Snap, Log: m.st.Log()})
	m.l.leaders[m.me] = true
	m.acks(m.me, own.Last)
	for _, s := range m.rising(2) {
		m.brings(s)
	}
	m.established()
}

func (m *model) brings(s int8) {
	o, own, log := m.l.of[s], m.st.Durable(), m.st.Log()
	cached := m.c.Cache
	if cached > len(log) {
		cached = len(log)
	}
	image := snap.Write(m.tree)
	way, e := choose.Way(o.told, own.Snap, log, cached, len(image), m.c.Factor)
	if e != api.OK {
		panic("no way")
	}
	if way.Way == api.BySnap {
		way.From = m.tree.Last()
	} else {
		image = nil
	}
	m.tell(api.Fact{Kind: api.FactFixed, Other: s, Epoch: m.l.e, Zxid: own.Last, Way: way.Way, Snap: own.Snap, Log: log})
	var rest []api.Txn
	for _, x := range log {
		if txn.Compare(x.Zxid, way.From) > 0 {
			rest = append(rest, x)
		}
	}
	all, _ := stream.Make(way, image, rest, m.l.e, m.c.Chunk)
	for _, p := range all {
		m.down(s, p)
	}
	o.stands, o.h = 3, own.Last
}

func (m *model) established() {
	if m.l.clock == nil {
		var set []int8
		for s := range m.l.leaders {
			set = append(set, s)
		}
		if !isQuorum(m.c, set) {
			return
		}
		m.tell(api.Fact{Kind: api.FactEstablished, Epoch: m.l.e})
		m.l.clock = &clockModel{due: map[int64]int{}, timeouts: map[int64]int32{}}
		for _, x := range m.tree.Sessions() {
			m.l.clock.begins(x.Id, x.Timeout)
		}
	}
	m.commits()
}

// acked is the greatest zxid up to which a quorum has.
func (m *model) acked() api.Zxid {
	var best api.Zxid
	for _, z := range m.l.acks {
		var set []int8
		for s, upTo := range m.l.acks {
			if txn.Compare(upTo, z) >= 0 {
				set = append(set, s)
			}
		}
		if isQuorum(m.c, set) && txn.Compare(z, best) > 0 {
			best = z
		}
	}
	return best
}

func (m *model) commits() {
	if m.l.clock == nil {
		return
	}
	if z := m.acked(); txn.Compare(z, m.committed) > 0 {
		m.committed = z
		m.delivers(z)
		for _, s := range m.rising(5) {
			m.down(s, api.Packet{Kind: api.PCommit, Zxid: z})
		}
	}
	for _, s := range m.rising(4) {
		if o := m.l.of[s]; txn.Compare(o.h, m.committed) <= 0 {
			m.down(s, api.Packet{Kind: api.PUpToDate, Zxid: m.committed})
			o.stands = 5
		}
	}
}

func (m *model) proposes(r api.Request, from api.Origin) {
	if m.l.n == m.c.LastCounter {
		m.givesUp()
		m.ends()
	}
	m.l.n++
	x := api.Txn{Zxid: api.Zxid{Epoch: m.l.e, N: m.l.n}, From: from, Req: r}
	ahead := m.st.Durable().Last
	m.tell(api.Fact{Kind: api.FactProposed, Txn: txn.Clone(x)})
	m.write(m.st.Append(x))
	m.acks(m.me, x.Zxid)
	if r.Session != 0 {
		m.l.clock.touch(r.Session)
	}
	for _, s := range m.rising(3, 4, 5) {
		m.down(s, api.Packet{Kind: api.PPropose, Prev: ahead, Txn: x})
	}
	m.commits()
}

func (m *model) followerTakes(s int8, p api.Packet) {
	f := m.f
	if s != f.whom || p.Conn != f.conn || p.Place != f.from || f.stands != 1 && p.Lead != f.lead {
		return
	}
	waits := map[int][]int8{1: {api.PEpoch}, 2: {api.PTrunc, api.PDiff, api.PChunk, api.PNewLeader}, 3: {api.PPropose, api.PUpToDate}, 4: {api.PPropose, api.PCommit}}
	if !slices.Contains(waits[f.stands], p.Kind) {
		return
	}
	f.from++
	own := m.st.Durable()
	bad := func(so bool) {
		if so {
			m.givesUp()
			m.ends()
		}
	}
	switch {
	case p.Kind == api.PEpoch:
		f.lead = p.Lead
		bad(p.Epoch < own.Accepted)
		if p.Epoch > own.Accepted {
			m.write(m.st.Accept(p.Epoch))
		}
		f.learner, _ = learn.New(p.Epoch, own.Snap, m.st.Log())
		m.up(api.Packet{Kind: api.PAckEpoch, Epoch: p.Epoch, Current: own.Current, Zxid: own.Last, Counted: p.Epoch > own.Accepted})
		f.stands = 2
	case f.stands == 2:
		done, e := f.learner.Take(p)
		bad(e != api.OK)
		if !done {
			return
		}
		b, _ := f.learner.Brought()
		m.write(m.st.Take(b))
		now := m.st.Durable()
		m.tell(api.Fact{Kind: api.FactTook, Other: s, Epoch: now.Current, Zxid: now.Last, Snap: now.Snap, Log: m.st.Log()})
		if len(b.Image) > 0 && txn.Compare(now.Snap, m.tree.Last()) > 0 {
			m.tree, m.committed = m.st.Tree(), now.Snap
		}
		m.up(api.Packet{Kind: api.PAckLeader, Epoch: now.Current})
		f.stands = 3
	case p.Kind == api.PPropose:
		bad(p.Prev != own.Last)
		m.write(m.st.Append(p.Txn))
		m.up(api.Packet{Kind: api.PAck, Zxid: p.Txn.Zxid})
	default:
		bad(txn.Compare(p.Zxid, own.Last) > 0)
		if txn.Compare(p.Zxid, m.committed) > 0 {
			m.committed = p.Zxid
		}
		m.delivers(m.committed)
		if p.Kind == api.PUpToDate {
			m.tell(api.Fact{Kind: api.FactUp, Other: s, Epoch: own.Current, Zxid: m.tree.Last()})
			f.stands = 4
		}
	}
}

// Ask is P24.7.
func (m *model) Ask(r api.Request, w api.Watch) (api.Result, api.Errno) {
	if m.state == api.Down || !m.d.On() {
		m.state = api.Down
		return api.Result{}, api.ErrDown
	}
	if !m.serves() {
		return api.Result{}, api.ErrLooking
	}
	if w.Kind != 0 && !slices.Contains(m.board, w) {
		if w.Kind < 1 || w.Kind > 4 || !isPath(w.Path) {
			return api.Result{}, api.ErrArg
		}
		if len(m.board) == 64 {
			return api.Result{}, api.ErrWatch
		}
		m.board = append(m.board, w)
	}
	return m.tree.Ask(r), api.OK
}

func (m *model) View() api.View {
	if !m.Up() {
		return api.View{}
	}
	v := api.View{State: m.state, Durable: m.st.Durable(), Log: m.st.Log(), Committed: m.committed, Delivered: m.tree.Last(), Serves: m.serves(), Digest: digest.Of(m.tree)}
	if m.l != nil {
		v.Leader = m.me
	}
	if m.f != nil {
		v.Leader = m.f.whom
	}
	return v
}

func (m *model) Up() bool { return m.state != api.Down && m.d.On() }
