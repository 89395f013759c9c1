package acl_test

import (
	"math/rand/v2"
	"regexp"
	"slices"
	"strconv"
	"strings"

	"lagoon/api"
)

// id is that of a text as name:ann.
func id(s string) api.Id {
	scheme, name, _ := strings.Cut(s, ":")
	return api.Id{Scheme: scheme, Name: name}
}

func ids(l ...string) []api.Id {
	var out []api.Id
	for _, s := range l {
		out = append(out, id(s))
	}
	return out
}

func entry(p int8, who string) api.Entry { return api.Entry{Perms: p, Who: id(who)} }

func entries(l ...api.Entry) []api.Entry { return l }

// What follows says the chapter's words once more, by patterns and by numbers of 32 bits.

const oneNumber = `(?:0|[1-9]|[1-9][0-9]|1[0-9][0-9]|2[0-4][0-9]|25[0-5])`

var (
	addressForm = regexp.MustCompile(`^(` + oneNumber + `)\.(` + oneNumber + `)\.(` + oneNumber + `)\.(` + oneNumber + `)$`)
	countForm   = regexp.MustCompile(`^(?:[0-9]|[12][0-9]|3[0-2])$`)
	nameForm    = regexp.MustCompile(`^[a-z0-9._-]{1,24}$`)
)

// wordOf is an address as one number.
func wordOf(address string) (uint32, bool) {
	parts := addressForm.FindStringSubmatch(address)
	if parts == nil {
		return 0, false
	}
	var word uint32
	for _, p := range parts[1:] {
		n, _ := strconv.Atoi(p)
		word = word<<8 + uint32(n)
	}
	return word, true
}

// rangeOf is the least and the greatest address of a range, or of a lone address.
func rangeOf(s string) (least, most uint32, ok bool) {
	count := "32"
	if at := strings.Index(s, "/"); at >= 0 {
		s, count = s[:at], s[at+1:]
	}
	word, ok := wordOf(s)
	if !ok || !countForm.MatchString(count) {
		return 0, 0, false
	}
	n, _ := strconv.Atoi(count)
	free := uint64(1) << (32 - n)
	least = uint32(uint64(word) / free * free)
	return least, uint32(uint64(least) + free - 1), true
}

func clientLike(who api.Id) bool {
	_, address := wordOf(who.Name)
	return who.Scheme == "ip" && address || who.Scheme == "name" && nameForm.MatchString(who.Name)
}

func entryLike(who api.Id) bool {
	_, _, span := rangeOf(who.Name)
	return who == id("world:anyone") || who == id("auth:") || who.Scheme == "ip" && span || who.Scheme == "name" && nameForm.MatchString(who.Name)
}

// apart tells whether no two are the same.
func apart[T comparable](l []T) bool {
	seen := map[T]int{}
	for i, x := range l {
		seen[x] = i
	}
	return len(seen) == len(l)
}

func idsLike(who []api.Id) bool {
	return len(who) <= 4 && apart(who) && !slices.ContainsFunc(who, func(x api.Id) bool { return !clientLike(x) })
}

func listLike(l []api.Entry) bool {
	wrong := func(e api.Entry) bool { return e.Perms < 1 || e.Perms > 31 || !entryLike(e.Who) }
	return len(l) <= 4 && apart(l) && !slices.ContainsFunc(l, wrong)
}

func fixedLike(l []api.Entry) bool {
	return listLike(l) && len(l) > 0 && !slices.ContainsFunc(l, func(e api.Entry) bool { return e.Who == id("auth:") })
}

func wantErr(fine bool) api.Errno {
	if fine {
		return api.OK
	}
	return api.ErrAcl
}

func wantMeets(entry, who api.Id) bool {
	if !entryLike(entry) || !clientLike(who) {
		return false
	}
	if entry.Scheme == "world" {
		return true
	}
	if entry.Scheme == "ip" && who.Scheme == "ip" {
		least, most, _ := rangeOf(entry.Name)
		word, _ := wordOf(who.Name)
		return least <= word && word <= most
	}
	return entry.Scheme == "name" && entry == who
}

// wantFix puts names for auth first, and takes the doubles out behind that.
func wantFix(l []api.Entry, who []api.Id) ([]api.Entry, api.Errno) {
	if !listLike(l) || !idsLike(who) {
		return nil, api.ErrAcl
	}
	if len(l) == 0 {
		return entries(entry(31, "world:anyone")), api.OK
	}
	var long, out []api.Entry
	for _, e := range l {
		before := len(long)
		for _, w := range who {
			if e.Who.Scheme == "auth" && w.Scheme == "name" {
				long = append(long, api.Entry{Perms: e.Perms, Who: w})
			}
		}
		if e.Who.Scheme != "auth" {
			long = append(long, e)
		}
		if len(long) == before {
			return nil, api.ErrAcl
		}
	}
	for i, e := range long {
		if slices.Index(long, e) == i {
			out = append(out, e)
		}
	}
	if len(out) > 4 {
		return nil, api.ErrAcl
	}
	return out, api.OK
}

// wantAllows asks for each bit by itself.
func wantAllows(l []api.Entry, perms int8, who []api.Id) bool {
	if !fixedLike(l) || perms < 0 || perms > 31 || !idsLike(who) {
		return false
	}
	for _, bit := range []int8{1, 2, 4, 8, 16} {
		has := perms&bit == 0
		for _, e := range l {
			for _, w := range who {
				has = has || e.Perms&bit != 0 && wantMeets(e.Who, w)
			}
			has = has || e.Perms&bit != 0 && e.Who.Scheme == "world"
		}
		if !has {
			return false
		}
	}
	return true
}

// A maker makes ids and lists, mostly such as may be, of so few names and addresses that they meet often.
type maker struct{ *rand.Rand }

func newMaker(seed uint64) maker { return maker{rand.New(rand.NewPCG(seed, 6))} }

func (m maker) pick(l ...string) string { return l[m.IntN(len(l))] }

func (m maker) odd() bool { return m.IntN(40) == 0 }

func (m maker) address() string {
	n := m.pick("0", "1", "10", "127", "128", "255")
	return n + "." + m.pick("0", "1") + "." + m.pick("0", "128") + "." + m.pick("0", "255", "3")
}

func (m maker) client() api.Id {
	if m.odd() {
		return id(m.pick("world:anyone", "auth:", "name:", "name:Ann", "ip:1.1.1", "ip:1.1.1.1/8", "ip:", ":ann", "Name:ann", ""))
	}
	if m.IntN(3) == 0 {
		return id("ip:" + m.address())
	}
	return id("name:" + m.pick("ann", "bob", "cy", "d.4", "e-_"))
}

func (m maker) whose() api.Id {
	if m.odd() {
		return id(m.pick("world:", "world:any", "auth:ann", "name:", "name:Ann", "ip:1.1.1.1/33", "ip:1.1.1.1/", "ip:1.1.1.256", ":", "digest:ann"))
	}
	switch m.IntN(8) {
	case 0:
		return id("world:anyone")
	case 1, 2:
		return id("auth:")
	case 3:
		return id("ip:" + m.address() + "/" + strconv.Itoa(m.IntN(33)))
	}
	return m.client()
}

func (m maker) perms() int8 {
	if m.odd() {
		return int8(m.IntN(256) - 128)
	}
	return int8(m.IntN(31) + 1)
}

func (m maker) ids() []api.Id {
	out := make([]api.Id, 0, 5)
	for range m.IntN(5) + m.IntN(9)/8 {
		if x := m.client(); m.odd() || !slices.Contains(out, x) {
			out = append(out, x)
		}
	}
	return out
}

func (m maker) list() []api.Entry {
	out := make([]api.Entry, 0, 5)
	for range m.IntN(5) + m.IntN(9)/8 {
		if x := (api.Entry{Perms: m.perms(), Who: m.whose()}); m.odd() || !slices.Contains(out, x) {
			out = append(out, x)
		}
	}
	return out
}
