package packet

import (
	"lagoon/api"
	"lagoon/txn"
)

// The fields of a packet beside its kind, as bits in the order in which they are laid.
const (
	fieldConn uint16 = 1 << iota
	fieldLead
	fieldPlace
	fieldEpoch
	fieldCurrent
	fieldZxid
	fieldPrev
	fieldCounted
	fieldFinal
	fieldTxn
	fieldBytes
	fieldSession
)

// fieldsBound: between which two a packet goes, and its place there. An Info alone does not know the leadership yet.
const fieldsBound = fieldConn | fieldLead | fieldPlace

// named is what each kind of packet names. There is no kind 0.
var named = [...]uint16{
	api.PInfo:      fieldConn | fieldEpoch,
	api.PEpoch:     fieldsBound | fieldEpoch,
	api.PAckEpoch:  fieldsBound | fieldEpoch | fieldCurrent | fieldZxid | fieldCounted,
	api.PTrunc:     fieldsBound | fieldZxid,
	api.PDiff:      fieldsBound | fieldPrev | fieldTxn,
	api.PChunk:     fieldsBound | fieldFinal | fieldBytes,
	api.PNewLeader: fieldsBound | fieldEpoch | fieldZxid,
	api.PAckLeader: fieldsBound | fieldEpoch,
	api.PUpToDate:  fieldsBound | fieldZxid,
	api.PPropose:   fieldsBound | fieldPrev | fieldTxn,
	api.PAck:       fieldsBound | fieldZxid,
	api.PCommit:    fieldsBound | fieldZxid,
	api.PForward:   fieldsBound | fieldTxn,
	api.PPing:      fieldsBound | fieldSession,
}

// namedBy is what a kind names: nothing, if there is no such kind.
func namedBy(kind int8) uint16 {
	if kind < api.PInfo || kind > api.PPing {
		return 0
	}
	return named[kind]
}

// filled is what of a packet is not zero.
func filled(p api.Packet) uint16 {
	return bit(fieldConn, p.Conn != api.Conn{}) |
		bit(fieldLead, p.Lead != api.Conn{}) |
		bit(fieldPlace, p.Place != 0) |
		bit(fieldEpoch, p.Epoch != 0) |
		bit(fieldCurrent, p.Current != 0) |
		bit(fieldZxid, p.Zxid != api.Zxid{}) |
		bit(fieldPrev, p.Prev != api.Zxid{}) |
		bit(fieldCounted, p.Counted) |
		bit(fieldFinal, p.Final) |
		bit(fieldTxn, !txn.Same(p.Txn, api.Txn{})) |
		bit(fieldBytes, len(p.Bytes) > 0) |
		bit(fieldSession, p.Session != 0)
}

func bit(field uint16, on bool) uint16 {
	if !on {
		return 0
	}
	return field
}
