package seglog

import (
	"iter"

	"hustings/api"
	"hustings/frame"
	"hustings/wire"
)

// Kinds of a record.
const (
	entryKind = 1
	cutKind   = 2
	baseKind  = 3
)

// record: an entry; a cut, by its index; or a base, by its index and term.
type record struct {
	kind        int
	entry       api.Entry
	index, term int
}

// records: each record that stands at the beginning of b, with the place behind it, up to the first frame that is none.
func records(b []byte) iter.Seq2[int, record] {
	return func(yield func(int, record) bool) {
		l, _, _ := frame.Scan(b)
		end := 0
		for _, f := range l {
			end += frame.Size(len(f.Data))
			r, ok := parse(f)
			if !ok || !yield(end, r) {
				return
			}
		}
	}
}

// parse: the record that a frame is, if it is one.
func parse(f frame.Frame) (record, bool) {
	r := record{kind: f.Kind}
	numbers := wire.New(f.Data)
	switch f.Kind {
	case entryKind:
		x, e := wire.GetEntry(f.Data)
		r.entry = x
		return r, e == api.OK
	case cutKind:
		r.index = numbers.Number()
	case baseKind:
		r.index, r.term = numbers.Number(), numbers.Number()
	default:
		return record{}, false
	}
	return r, numbers.End() == api.OK
}

// entryRecords: entries as bytes; ErrArg, if one may not be.
func entryRecords(x ...api.Entry) ([]byte, api.Errno) {
	var parts [][]byte
	for _, one := range x {
		b, e := wire.PutEntry(one)
		if e != api.OK {
			return nil, e
		}
		parts = append(parts, framed(entryKind, b))
	}
	return wire.Join(parts...), api.OK
}

// cutRecord: a cut as bytes.
func cutRecord(from int) []byte {
	return framed(cutKind, number(from))
}

// baseRecord: a base as bytes.
func baseRecord(index, term int) []byte {
	return framed(baseKind, number(index), number(term))
}

// framed: parts as one frame. A record never comes near to the most bytes that a frame can have.
func framed(kind int, parts ...[]byte) []byte {
	b, _ := frame.Put(kind, wire.Join(parts...))
	return b
}

// number: as bytes. Indexes and terms never come near to the greatest number.
func number(n int) []byte {
	b, _ := wire.PutNumber(n)
	return b
}
