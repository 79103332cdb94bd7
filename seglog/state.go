package seglog

import (
	"bytes"
	"slices"

	"hustings/api"
)

// state: a base, and the entries above it, whose indexes go on by one.
type state struct {
	index, term int
	list        []api.Entry
}

// last: the index of the last entry, or of the base.
func (s *state) last() int {
	return s.index + len(s.list)
}

// has: is there an entry i?
func (s *state) has(i int) bool {
	return s.index < i && i <= s.last()
}

// termOf: of the entry i, which is there, or of the base.
func (s *state) termOf(i int) int {
	if i == s.index {
		return s.term
	}
	return s.list[i-s.index-1].Term
}

// nextAre: are these what comes next, with terms that don't fall?
func (s *state) nextAre(x []api.Entry) bool {
	index, term := s.last(), s.termOf(s.last())
	for _, e := range x {
		if e.Index != index+1 || e.Term < term {
			return false
		}
		index, term = e.Index, e.Term
	}
	return true
}

// cut: the entry from, if it is there, and all behind it, go.
func (s *state) cut(from int) bool {
	if !s.has(from) {
		return false
	}
	s.list = slices.Delete(s.list, from-s.index-1, len(s.list))
	return true
}

// rebased: with another base; entries stay only behind one that is that base.
func (s *state) rebased(index, term int) state {
	next := state{index: index, term: term}
	if s.has(index) && s.termOf(index) == term {
		next.list = slices.Clone(s.list[index-s.index:])
	}
	return next
}

// read: takes over the records of a file, up to the first that does not fit, and tells whether they are all of it.
func (s *state) read(b []byte) bool {
	fit := 0
	for end, r := range records(b) {
		if !s.take(r) {
			break
		}
		fit = end
	}
	return fit == len(b)
}

// take: what a record says, if it fits.
func (s *state) take(r record) bool {
	switch r.kind {
	case entryKind:
		return s.takeEntry(r.entry)
	case cutKind:
		return s.cut(r.index)
	}
	if r.index > s.index {
		*s = s.rebased(r.index, r.term)
	}
	return true
}

// takeEntry: the next entry, or one in the place of that which is there.
func (s *state) takeEntry(x api.Entry) bool {
	if x.Index <= s.index {
		return true
	}
	if x.Index > s.last()+1 || x.Term < s.termOf(x.Index-1) {
		return false
	}
	s.cut(x.Index)
	s.list = append(s.list, x)
	return true
}

// records: the bytes that tell this state on their own. They may also stand behind the records of a state that this one was rebased from.
func (s *state) records() []byte {
	// Entries that are in a log are such that may be.
	b, _ := entryRecords(s.list...)
	return slices.Concat(baseRecord(s.index, s.term), b)
}

// copies: entries in memory of their own.
func copies(l []api.Entry) []api.Entry {
	l = slices.Clone(l)
	for i := range l {
		l[i].Data = bytes.Clone(l[i].Data)
	}
	return l
}
