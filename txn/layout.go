package txn

import "lagoon/api"

// The fields of a request beside its kind, as bits in the order in which they are laid.
const (
	fieldPath uint16 = 1 << iota
	fieldData
	fieldAcl
	fieldVersion
	fieldEphemeral
	fieldSequence
	fieldSession
	fieldTimeout
	fieldWho
	fieldOps
)

// fieldsClient: on whose behalf a request is.
const fieldsClient = fieldSession | fieldWho

// named is what each kind of request names. There is no kind 0.
var named = [...]uint16{
	api.Create:  fieldPath | fieldData | fieldAcl | fieldEphemeral | fieldSequence | fieldsClient,
	api.Delete:  fieldPath | fieldVersion | fieldsClient,
	api.SetData: fieldPath | fieldData | fieldVersion | fieldsClient,
	api.SetAcl:  fieldPath | fieldAcl | fieldVersion | fieldsClient,
	api.Check:   fieldPath | fieldVersion | fieldsClient,
	api.Multi:   fieldsClient | fieldOps,
	api.Open:    fieldTimeout,
	api.Close:   fieldSession,
	api.GetData: fieldPath | fieldsClient,
	api.Exists:  fieldPath | fieldsClient,
	api.List:    fieldPath | fieldsClient,
	api.GetAcl:  fieldPath | fieldsClient,
}

// layout is how requests are laid at a place: the last kind that may stand there, and what none of them names there.
type layout struct {
	last    int8
	without uint16
}

// asked: a client's request, which may read as well.
func asked() layout { return layout{last: api.GetAcl} }

// proposed: a transaction's request, which writes.
func proposed() layout { return layout{last: api.Close} }

// within: a Multi's request. It changes one node or checks it, and is on the Multi's own behalf. (As no Multi stands there, nothing nests deeper.)
func within() layout { return layout{last: api.Check, without: fieldsClient} }

// names is what a kind names there: nothing, if it may not stand there.
func (l layout) names(kind int8) uint16 {
	if kind < api.Create || kind > l.last {
		return 0
	}
	return named[kind] &^ l.without
}

// mayBe tells whether a request may stand there.
func (l layout) mayBe(r api.Request) bool {
	names, has := l.names(r.Kind), filled(r)
	return names != 0 && has&^names == 0 && needed(r.Kind)&^has == 0 && isBounded(r)
}

// needed is what a kind names that may not be zero.
func needed(kind int8) uint16 {
	switch kind {
	case api.Multi:
		return fieldOps
	case api.Open:
		return fieldTimeout
	case api.Close:
		return fieldSession
	default:
		return 0
	}
}

// filled is what of a request is not zero.
func filled(r api.Request) uint16 {
	return bit(fieldPath, r.Path != "") |
		bit(fieldData, len(r.Data) > 0) |
		bit(fieldAcl, len(r.Acl) > 0) |
		bit(fieldVersion, r.Version != 0) |
		bit(fieldEphemeral, r.Ephemeral) |
		bit(fieldSequence, r.Sequence) |
		bit(fieldSession, r.Session != 0) |
		bit(fieldTimeout, r.Timeout != 0) |
		bit(fieldWho, len(r.Who) > 0) |
		bit(fieldOps, len(r.Ops) > 0)
}

func bit(field uint16, on bool) uint16 {
	if !on {
		return 0
	}
	return field
}

// isBounded looks at every field, whatever the kind: zero, which is what it does not name, is within all bounds.
func isBounded(r api.Request) bool {
	return len(r.Path) <= api.MaxPath &&
		len(r.Data) <= api.MaxData &&
		isList(r.Acl, api.MaxAcl, isEntry) &&
		r.Session >= 0 &&
		r.Timeout >= 0 && r.Timeout <= api.MaxTimeout &&
		isList(r.Who, api.MaxIds, isId) &&
		isList(r.Ops, api.MaxOps, within().mayBe)
}

// isList tells whether a list has at most so many elements, each of which may be.
func isList[T any](l []T, most int, mayBe func(x T) bool) bool {
	if len(l) > most {
		return false
	}
	for _, x := range l {
		if !mayBe(x) {
			return false
		}
	}
	return true
}

func isEntry(e api.Entry) bool { return isId(e.Who) }

func isId(id api.Id) bool { return len(id.Scheme) <= api.MaxId && len(id.Name) <= api.MaxId }
