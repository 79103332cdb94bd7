package watch_test

import (
	"bytes"
	"slices"
	"testing"

	"hustings/api"
	"hustings/entries"
	"hustings/watch"
	"hustings/wire"
)

const (
	highest = 1<<63 - 1
	lowest  = -1 << 63
	topBase = 1 << 39
)

// row: entries without data, behind an index, of those terms.
func row(prev int, terms ...int) []api.Entry {
	var l []api.Entry
	for i, term := range terms {
		l = append(l, api.Entry{Term: term, Index: prev + 1 + i, Kind: api.Nothing})
	}
	return l
}

// view: of a base, and entries of those terms.
func view(base int, terms ...int) entries.View {
	return entries.View{Base: base, L: row(base, terms...)}
}

// with: the same View, but for one entry, which is a Command with that data.
func with(v entries.View, index int, data string) entries.View {
	v.L = slices.Clone(v.L)
	x := &v.L[index-v.Base-1]
	x.Kind, x.Data = api.Command, []byte(data)
	return v
}

// long: a View of n entries of a term.
func long(base, term, n int) entries.View {
	return view(base, slices.Repeat([]int{term}, n)...)
}

// lists: a View of Base 0 whose entries are those lists of servers; an empty list stands for an entry of the kind Nothing.
func lists(t *testing.T, rows ...[]int) entries.View {
	t.Helper()
	v := long(0, 1, len(rows))
	for i, l := range rows {
		if len(l) == 0 {
			continue
		}
		b, e := wire.PutServers(l)
		if e != api.OK {
			t.Fatal(l, e)
		}
		v.L[i].Kind, v.L[i].Data = api.Servers, b
	}
	return v
}

// wrongViews: Views that may not be, each with entries from the index 1 on, or with none, but for what is wrong.
func wrongViews(t *testing.T) []entries.View {
	t.Helper()
	jump := lists(t, []int{0}, []int{0, 1, 2}).L
	wrong := func(x api.Entry) entries.View {
		x.Index = 3
		return entries.View{L: append(slices.Clone(jump), x)}
	}
	return []entries.View{
		{Base: -1, L: jump},
		{Base: 1, L: jump},
		{Base: lowest, L: jump},
		{Base: highest, L: jump},
		{Term: -1, L: jump},
		{Term: 2, L: jump},
		{Term: api.MaxTerm, L: jump},
		{Base: topBase + 1, L: row(topBase+1, 1, 1)},
		{Base: highest, L: []api.Entry{{Term: 1, Index: lowest, Kind: api.Nothing}}},
		{L: append(slices.Clone(jump), row(3, 1)...)},
		{L: append(slices.Clone(jump), row(1, 1)...)},
		{L: append(slices.Clone(jump), row(2, 2, 1)...)},
		{L: append(slices.Clone(jump), row(2, slices.Repeat([]int{1}, api.MaxLog-1)...)...)},
		{L: make([]api.Entry, 3)},
		wrong(api.Entry{}),
		wrong(api.Entry{Term: 1}),
		wrong(api.Entry{Term: 1, Kind: 4}),
		wrong(api.Entry{Term: api.MaxTerm, Kind: api.Nothing}),
		wrong(api.Entry{Term: 1, Kind: api.Nothing, Data: []byte{0}}),
		wrong(api.Entry{Term: 1, Kind: api.Command, Data: make([]byte, 4097)}),
		wrong(api.Entry{Term: 1, Kind: api.Servers}),
		wrong(api.Entry{Term: 1, Kind: api.Servers, Data: []byte{1, 2, 1, 2, 1, 1}}),
	}
}

// told: of a View, short enough for a failure that has a long one.
func told(v entries.View) []any {
	return []any{v.Base, v.Term, len(v.L), v.L[:min(len(v.L), 5)]}
}

// rises: all lists of at most n terms from least to most that don't fall.
func rises(least, most, n int) [][]int {
	all := [][]int{nil}
	if n == 0 {
		return all
	}
	for term := least; term <= most; term++ {
		for _, rest := range rises(term, most, n-1) {
			all = append(all, append([]int{term}, rest...))
		}
	}
	return all
}

// smallViews: all Views of those bases, with at most n entries of the terms 1 and 2, each of the kind Nothing, or a Command with one of those data.
func smallViews(bases []int, n int, data ...string) []entries.View {
	var all []entries.View
	for _, base := range bases {
		for _, terms := range rises(1, 2, n) {
			few := []entries.View{view(base, terms...)}
			for i := range terms {
				for _, v := range slices.Clone(few) {
					for _, text := range data {
						few = append(few, with(v, base+1+i, text))
					}
				}
			}
			all = append(all, few...)
		}
	}
	return all
}

// byIndex: the entries of a View; none, if it may not be.
func byIndex(v entries.View) map[int]api.Entry {
	m := map[int]api.Entry{}
	if entries.Right(v) {
		for _, x := range v.L {
			m[x.Index] = x
		}
	}
	return m
}

// differing: by P2002's words: the least index up to most at which both have entries, and they differ; 0, if there is none.
func differing(a, b map[int]api.Entry, most int) int {
	least := 0
	for i, x := range a {
		y, both := b[i]
		same := x.Term == y.Term && x.Kind == y.Kind && bytes.Equal(x.Data, y.Data)
		if both && !same && i <= most && (least == 0 || i < least) {
			least = i
		}
	}
	return least
}

// matching: Match by P2002's words.
func matching(a, b entries.View) int {
	x, y := byIndex(a), byIndex(b)
	n := 0
	for i := range x {
		if other, both := y[i]; both && other.Term == x[i].Term {
			n = max(n, i)
		}
	}
	return differing(x, y, n)
}

func agreeing(a, b watch.Seen) int {
	return differing(byIndex(a.View), byIndex(b.View), min(a.Commit, b.Commit))
}

// texts: records of these texts.
func texts(l ...string) [][]byte {
	var b [][]byte
	for _, s := range l {
		b = append(b, []byte(s))
	}
	return b
}
