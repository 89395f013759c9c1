package link_test

import (
	"bytes"
	"fmt"
	"math"
	"slices"
	"strings"
	"testing"

	"lagoon/api"
	"lagoon/link"
)

// noServers are numbers that no server has, whatever the net.
var noServers = []int8{-1, -2, -7, -8, math.MinInt8, 7, 8, 9, 64, math.MaxInt8}

// noPlaces are numbers that are no place, whatever the list.
var noPlaces = []int{-1, -2, -3, -256, math.MinInt32, math.MinInt, math.MaxInt32, math.MaxInt, 1 << 32, 1<<32 + 1, 1 << 31, 1 << 16, 1 << 8}

// sent is a message as the chapter says it; its bytes are a text, which nobody can write over.
type sent struct {
	from, to int8
	text     string
	spoilt   bool
}

func (m sent) String() string {
	return fmt.Sprintf("{%d %d % x %v}", m.from, m.to, m.text, m.spoilt)
}

func (m sent) turned(at int, xor byte) sent {
	m.text = m.text[:at] + string([]byte{m.text[at] ^ xor}) + m.text[at+1:]
	m.spoilt = true
	return m
}

func of(from, to int8, text string) sent { return sent{from: from, to: to, text: text} }

// seen is a message as a net tells it.
func seen(m api.Message) sent {
	return sent{from: m.From, to: m.To, text: string(m.Bytes), spoilt: m.Spoilt}
}

func seenAll(l []api.Message) []sent {
	var out []sent
	for _, m := range l {
		out = append(out, seen(m))
	}
	return out
}

// list is what a net is to be: how many servers, and what is under way, made anew by each call.
type list struct {
	servers int
	all     []sent
}

func (l *list) send(from, to int8, text string) api.Errno {
	lowest, highest := min(from, to), max(from, to)
	if lowest < 0 || int(highest) > l.servers-1 || lowest == highest || len(text) == 0 || len(text) > 8192 {
		return api.ErrArg
	}
	l.all = slices.Concat(l.all, []sent{of(from, to, text)})
	return api.OK
}

func (l *list) isPlace(place int) bool { return place >= 0 && place < len(l.all) }

func (l *list) take(place int) (sent, api.Errno) {
	if !l.isPlace(place) {
		return sent{}, api.ErrLink
	}
	m := l.all[place]
	l.all = slices.Concat(l.all[:place], l.all[place+1:])
	return m, api.OK
}

func (l *list) double(place int) api.Errno {
	if !l.isPlace(place) {
		return api.ErrLink
	}
	l.all = slices.Concat(l.all, l.all[place:place+1])
	return api.OK
}

func (l *list) spoil(place, at int, xor byte) api.Errno {
	if !l.isPlace(place) {
		return api.ErrLink
	}
	m := l.all[place]
	if at < 0 || at >= len(m.text) || xor == 0 {
		return api.ErrArg
	}
	if m.spoilt {
		return api.ErrLink
	}
	l.all = slices.Concat(l.all[:place], []sent{m.turned(at, xor)}, l.all[place+1:])
	return api.OK
}

// pair is a net, and what it is to be.
type pair struct {
	list
	n *link.Net
}

func begun(t *testing.T, servers int) *pair {
	t.Helper()
	n, e := link.New(servers)
	if n == nil || e != api.OK {
		t.Fatalf("P22.1: New(%d) = %v, %d", servers, n, e)
	}
	p := &pair{list: list{servers: servers}, n: n}
	p.looks(t, "New")
	return p
}

// with is a net of seven servers, with these texts under way.
func with(t *testing.T, texts ...string) *pair {
	t.Helper()
	p := begun(t, 7)
	for i, text := range texts {
		p.sends(t, int8(i%7), int8((i+1+i/7%6)%7), text, api.OK)
	}
	return p
}

// five are texts of one byte and of more, two of them the same.
func five() []string { return []string{"a", "bcd", "a", strings.Repeat("\x00\xff", 40), "ef"} }

// looks holds what is told of all against what is to be there; twice, as nothing changes by it.
func (p *pair) looks(t *testing.T, behind string) {
	t.Helper()
	for range 2 {
		if got := seenAll(p.n.All()); !slices.Equal(got, p.all) {
			t.Errorf("P22.4: behind %s All tells %v, not %v", behind, got, p.all)
		}
		if got := p.n.Len(); got != len(p.all) {
			t.Errorf("P22.4: behind %s Len = %d, not %d", behind, got, len(p.all))
		}
	}
}

// agrees is for calls that answer an error alone: what the model answers is what the chapter asks for.
func (p *pair) agrees(t *testing.T, call string, got, model, want api.Errno) {
	t.Helper()
	if model != want {
		t.Fatalf("%s: the model answers %d, not %d", call, model, want)
	}
	if got != want {
		t.Errorf("%s = %d, not %d", call, got, want)
	}
	p.looks(t, call)
}

func (p *pair) sends(t *testing.T, from, to int8, text string, want api.Errno) {
	t.Helper()
	p.agrees(t, "P22.2: Send", p.n.Send(from, to, []byte(text)), p.send(from, to, text), want)
}

// takes tells the message, too.
func (p *pair) takes(t *testing.T, place int, want api.Errno) api.Message {
	t.Helper()
	m, model := p.take(place)
	got, e := p.n.Take(place)
	if seen(got) != m {
		t.Errorf("P22.3: Take(%d) = %v, not %v", place, seen(got), m)
	}
	p.agrees(t, "P22.3: Take", e, model, want)
	return got
}

func (p *pair) doubles(t *testing.T, place int, want api.Errno) {
	t.Helper()
	p.agrees(t, "P22.3: Double", p.n.Double(place), p.double(place), want)
}

func (p *pair) spoils(t *testing.T, place, at int, xor byte, want api.Errno) {
	t.Helper()
	p.agrees(t, "P22.3: Spoil", p.n.Spoil(place, at, xor), p.spoil(place, at, xor), want)
}

// lacks asks for a place that is none.
func (p *pair) lacks(t *testing.T, place int) {
	t.Helper()
	p.takes(t, place, api.ErrLink)
	p.doubles(t, place, api.ErrLink)
	for _, at := range []int{-1, 0, 1, 8192} {
		for _, xor := range []byte{0, 1, 255} {
			p.spoils(t, place, at, xor, api.ErrLink)
		}
	}
}

// roomy is bytes with spare room behind them that is filled.
func roomy(text string) []byte {
	return append([]byte(text), bytes.Repeat([]byte{0xEE}, 32)...)[: len(text) : len(text)+32]
}

// wipe writes over bytes and their spare room.
func wipe(b []byte) {
	b = b[:cap(b)]
	for i := range b {
		b[i] = 0xDD
	}
}
