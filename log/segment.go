package log

import (
	"slices"
	"strconv"
	"strings"

	"lagoon/api"
	"lagoon/disk"
	"lagoon/frame"
	"lagoon/txn"
)

// mostSegments: with one more the name of the greatest log's segment would be too long for a disk.
const mostSegments = 4095

// Name is the name of a segment: of the log's number, its own from 1 on.
func Name(number int64, segment int) string {
	if number < 1 || segment < 1 || segment > mostSegments {
		return ""
	}
	return prefix(number) + strconv.FormatInt(int64(segment), 16)
}

// prefix is what the names of all segments of a log begin with.
func prefix(number int64) string {
	return "log." + strconv.FormatInt(number, 16) + "."
}

// found are the numbers of the log's segments that are on the disk, in no order that matters.
func found(d *disk.Disk, number int64) []int {
	var out []int
	for _, name := range d.Names() {
		if segment := numberOf(name, number); segment > 0 {
			out = append(out, segment)
		}
	}
	return out
}

// numberOf is the number of the log's segment that has that name; 0, if none has. (A number that is written otherwise, or is beyond the last, is not written back as it was.)
func numberOf(name string, number int64) int {
	segment, err := strconv.ParseInt(strings.TrimPrefix(name, prefix(number)), 16, 32)
	if err != nil || Name(number, int(segment)) != name {
		return 0
	}
	return int(segment)
}

// fill writes the segments of a new log: without transactions there is a first one all the same.
func (l *Log) fill(all []api.Txn) api.Errno {
	if len(all) == 0 {
		return l.put(1)
	}
	for part := range slices.Chunk(all, l.size) {
		if e := l.put(l.segments+1, part...); e != api.OK {
			return e
		}
	}
	return api.OK
}

// put writes transactions behind a segment's end, and syncs it. They are the log's only if the disk has done both.
func (l *Log) put(segment int, added ...api.Txn) (e api.Errno) {
	defer func() {
		if e == api.OK {
			l.settle(segment, clones(added))
		}
	}()
	name := Name(l.number, segment)
	if e = l.disk.Append(name, frames(added)); e != api.OK {
		return e
	}
	return l.disk.Sync(name)
}

// settle takes what the disk has of a segment: the last one, or the one behind it.
func (l *Log) settle(segment int, added []api.Txn) {
	if segment > l.segments {
		l.segments, l.filled = segment, 0
	}
	l.filled += len(added)
	l.txns = append(l.txns, added...)
	for _, t := range added {
		l.last = t.Zxid
	}
}

// frames are the bytes of transactions that may be, as a segment has them.
func frames(l []api.Txn) []byte {
	var out []byte
	for _, t := range l {
		body, _ := txn.Write(t)
		f, _ := frame.Put(body)
		out = append(out, f...)
	}
	return out
}

// load reads the segments up to the one of that number, in order, and cuts off what is torn behind the last.
func (l *Log) load(most int) api.Errno {
segments:
	for segment := 1; segment <= most; segment++ {
		b, _ := l.disk.Read(Name(l.number, segment)) // it is there, and so is the power
		l.settle(segment, nil)
		whole := 0
		for end, body := range frame.All(b) {
			t, e := txn.Read(body)
			if e != api.OK || txn.Compare(t.Zxid, l.last) <= 0 { // zero is above nothing
				break segments
			}
			l.settle(segment, []api.Txn{t})
			whole = end
		}
		if segment == most {
			return l.cut(segment, whole, len(b))
		}
		if whole == 0 || whole < len(b) {
			break
		}
	}
	return api.ErrTorn
}

// cut leaves the whole bytes of a segment, if it has more.
func (l *Log) cut(segment, whole, all int) api.Errno {
	if whole == all {
		return api.OK
	}
	return l.disk.Cut(Name(l.number, segment), whole)
}
