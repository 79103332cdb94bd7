package progress_test

import (
	"slices"

	"hustings/api"
	"hustings/entries"
	"hustings/progress"
)

const (
	highest = 1<<63 - 1
	lowest  = -1 << 63
	topBase = 1 << 39
)

// row: entries behind an index, of those terms, each with data of its own.
func row(prev int, terms ...int) []api.Entry {
	var l []api.Entry
	for i, term := range terms {
		l = append(l, api.Entry{Term: term, Index: prev + 1 + i, Kind: api.Command, Data: []byte{byte(i), byte(i >> 8), byte(term)}})
	}
	return l
}

// view: of a base and its term, and entries of those terms.
func view(base, term int, terms ...int) entries.View {
	return entries.View{Base: base, Term: term, L: row(base, terms...)}
}

// long: a View of n entries of a term.
func long(base, term, n int) entries.View {
	return view(base, term, slices.Repeat([]int{term}, n)...)
}

// wrongViews: Views that may not be, each with entries of term 1 and 2 that a quorum could reach, but for what is wrong.
func wrongViews() []entries.View {
	l := []entries.View{
		view(-1, 0, 1, 2),
		view(lowest, 0, 1, 2),
		view(topBase+1, 1, 1, 2),
		view(0, -1, 1, 2),
		view(0, api.MaxTerm, 1, 2),
		view(0, 0, 2, 1),
		view(0, 0, 0, 1, 2),
		view(5, 2, 1, 2),
		{Base: 5, L: row(6, 1, 2)},
		{Base: 5, L: row(4, 1, 2)},
		{L: append(row(0, 1), row(2, 2)...)},
		{Base: highest, Term: 1, L: []api.Entry{{Term: 1, Index: lowest, Kind: api.Nothing}}},
		{Base: lowest, Term: 1, L: []api.Entry{{Term: 1, Index: lowest + 1, Kind: api.Nothing}}},
		{L: []api.Entry{{Term: 1, Index: 1}}},
		{L: []api.Entry{{Term: 1, Index: 1, Kind: api.Nothing, Data: []byte{1}}}},
		{L: []api.Entry{{Term: 1, Index: 1, Kind: api.Command, Data: make([]byte, 4097)}}},
		{L: []api.Entry{{Term: 1, Index: 1, Kind: api.Servers, Data: []byte("xyz")}}},
		long(0, 1, api.MaxLog+1),
		{L: make([]api.Entry, 3)},
	}
	return l
}

func sameEntry(a, b api.Entry) bool {
	return a.Term == b.Term && a.Index == b.Index && a.Kind == b.Kind && slices.Equal(a.Data, b.Data)
}

func sameList(a, b []api.Entry) bool {
	return slices.EqualFunc(a, b, sameEntry)
}

func sameSend(a, b progress.Send) bool {
	return a.Snap == b.Snap && a.Prev == b.Prev && a.Term == b.Term && sameList(a.Entries, b.Entries)
}

// told: of a View, short enough for a failure that has a long one.
func told(v entries.View) []any {
	return []any{v.Base, v.Term, len(v.L), v.L[:min(len(v.L), 5)]}
}

// rises: all lists of at most n terms from 1 to most that don't fall, from least on.
func rises(least, most, n int) [][]int {
	all := [][]int{nil}
	if n == 0 {
		return all
	}
	for term := max(least, 1); term <= most; term++ {
		for _, rest := range rises(term, most, n-1) {
			all = append(all, append([]int{term}, rest...))
		}
	}
	return all
}
