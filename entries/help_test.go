package entries_test

import (
	"slices"
	"testing"

	"hustings/api"
	"hustings/entries"
	"hustings/wire"
)

const (
	highest = 1<<63 - 1
	lowest  = -1 << 63
	topBase = 1 << 39
)

// row: entries without data, behind an index, of those terms.
func row(prev int, terms ...int) []api.Entry {
	var l []api.Entry
	for i, term := range terms {
		l = append(l, api.Entry{Term: term, Index: prev + 1 + i, Kind: api.Nothing})
	}
	return l
}

// view: of a base and its term, and entries of those terms.
func view(base, term int, terms ...int) entries.View {
	return entries.View{Base: base, Term: term, L: row(base, terms...)}
}

// commands: n entries of a term, behind an index, each with data of its own.
func commands(prev, term, n int) []api.Entry {
	var l []api.Entry
	for i := range n {
		l = append(l, api.Entry{Term: term, Index: prev + 1 + i, Kind: api.Command, Data: []byte{byte(i), byte(i >> 8), byte(term)}})
	}
	return l
}

// serversOf: a list of servers as bytes.
func serversOf(t *testing.T, l ...int) []byte {
	t.Helper()
	b, e := wire.PutServers(l)
	if e != api.OK {
		t.Fatal(l, e)
	}
	return b
}

func sameEntry(a, b api.Entry) bool {
	return a.Term == b.Term && a.Index == b.Index && a.Kind == b.Kind && slices.Equal(a.Data, b.Data)
}

func sameList(a, b []api.Entry) bool {
	return slices.EqualFunc(a, b, sameEntry)
}

func sameView(a, b entries.View) bool {
	return a.Base == b.Base && a.Term == b.Term && sameList(a.L, b.L)
}

func sameFit(a, b entries.Fit) bool {
	return a.Yes == b.Yes && a.Match == b.Match && a.Cut == b.Cut && sameList(a.Add, b.Add)
}

// wrongEntries: entries of that index and term that may not be, but for these.
func wrongEntries(index, term int) []api.Entry {
	return []api.Entry{
		{Term: term, Index: index},
		{Term: term, Index: index, Kind: -1},
		{Term: term, Index: index, Kind: 4},
		{Term: term, Index: index, Kind: highest},
		{Term: term, Index: index, Kind: api.Nothing, Data: []byte{0}},
		{Term: term, Index: index, Kind: api.Command, Data: make([]byte, 4097)},
		{Term: term, Index: index, Kind: api.Servers},
		{Term: term, Index: index, Kind: api.Servers, Data: []byte("xyz")},
		{Term: term, Index: index, Kind: api.Servers, Data: []byte{1, 2, 1, 2, 1, 1}},
		{Term: 0, Index: index, Kind: api.Nothing},
		{Term: -1, Index: index, Kind: api.Nothing},
		{Term: lowest, Index: index, Kind: api.Nothing},
		{Term: api.MaxTerm, Index: index, Kind: api.Nothing},
		{Term: highest, Index: index, Kind: api.Nothing},
	}
}

// wrongViews: Views that may not be.
func wrongViews() []entries.View {
	l := []entries.View{
		view(-1, 0),
		view(-1, 0, 1, 1),
		view(lowest, 0),
		view(topBase+1, 1),
		view(topBase+1, 1, 1),
		view(1<<40-2, 1, 1),
		view(highest, 1),
		{Base: highest, Term: 1, L: []api.Entry{{Term: 1, Index: lowest, Kind: api.Nothing}}},
		view(0, -1),
		view(0, lowest, 1),
		view(0, api.MaxTerm),
		view(0, highest, 1),
		view(0, 0, 0),
		view(0, 0, 1, api.MaxTerm),
		view(0, 2, 1),
		view(5, 3, 3, 4, 3),
		view(5, 3, 2, 3),
		{L: row(1, 1)},
		{L: row(-1, 1, 1)},
		{Base: 5, Term: 1, L: row(4, 1, 1)},
		{Base: 5, Term: 1, L: row(6, 1, 1)},
		{L: append(row(0, 1, 1), row(1, 1)...)},
		{L: append(row(0, 1, 1), row(3, 1)...)},
		{L: []api.Entry{{Term: 1, Index: lowest, Kind: api.Nothing}}},
		{L: []api.Entry{{Term: 1, Index: highest, Kind: api.Nothing}}},
		{L: commands(0, 1, api.MaxLog+1)},
		{L: make([]api.Entry, 100000)},
	}
	for _, x := range wrongEntries(3, 1) {
		l = append(l, entries.View{L: append(row(0, 1, 1), x)}, entries.View{L: append(row(0, 1, 1), append([]api.Entry{x}, row(3, 1)...)...)})
	}
	return l
}

// told: of a View, short enough for a failure that has a long one.
func told(v entries.View) []any {
	return []any{v.Base, v.Term, len(v.L), v.L[:min(len(v.L), 5)]}
}

// rises: all lists of at most n terms from 1 to most that don't fall, from least on.
func rises(least, most, n int) [][]int {
	all := [][]int{nil}
	if n == 0 {
		return all
	}
	for term := max(least, 1); term <= most; term++ {
		for _, rest := range rises(term, most, n-1) {
			all = append(all, append([]int{term}, rest...))
		}
	}
	return all
}
