package entries_test

import (
	"testing"

	"hustings/api"
	"hustings/entries"
)

// P1201, P1202: Views that may be, up to their limits.
func TestRight(t *testing.T) {
	kinds := []api.Entry{
		{Term: 1, Index: 1, Kind: api.Nothing},
		{Term: 1, Index: 2, Kind: api.Nothing, Data: []byte{}},
		{Term: 1, Index: 3, Kind: api.Command},
		{Term: 1, Index: 4, Kind: api.Command, Data: make([]byte, 4096)},
		{Term: 1, Index: 5, Kind: api.Servers, Data: serversOf(t, 0)},
		{Term: 9, Index: 6, Kind: api.Servers, Data: serversOf(t, 0, 1, 2, 3, 4, 5, 15)},
	}
	for _, v := range []entries.View{
		{},
		{L: []api.Entry{}},
		{L: kinds},
		view(0, 0, 1),
		view(0, 0, 1, 1, 2, 7, 7),
		view(0, 3, 3),
		view(5, 0, 1),
		view(5, 3, 3, 3, 4),
		view(topBase, 1),
		view(topBase, 1, 1, 2),
		view(0, api.MaxTerm-1),
		view(0, api.MaxTerm-1, api.MaxTerm-1, api.MaxTerm-1),
		{L: commands(0, 1, api.MaxLog)},
		{Base: topBase, Term: 1, L: commands(topBase, 1, api.MaxLog)},
	} {
		if !entries.Right(v) {
			t.Error("it may be:", told(v))
		}
	}
	for _, v := range wrongViews() {
		if entries.Right(v) {
			t.Error("it may not be:", told(v))
		}
	}
}

// P1201: of a View that may not be all others tell nothing, and TermOf ErrArg, ahead of all else.
func TestOfWrongViews(t *testing.T) {
	for _, v := range wrongViews() {
		for _, i := range []int{lowest, -1, 0, 1, 2, 5, topBase + 1, highest} {
			if term, e := entries.TermOf(v, i); term != 0 || e != api.ErrArg {
				t.Error("TermOf", i, told(v), term, e)
			}
			if l := entries.From(v, i, 9); len(l) != 0 {
				t.Error("From", i, told(v), len(l))
			}
			if n := entries.First(v, i); n != 0 {
				t.Error("First", i, told(v), n)
			}
			if f := entries.Try(v, i, 1, nil); !sameFit(f, entries.Fit{}) {
				t.Error("Try", i, told(v), f)
			}
			if w := entries.Do(v, entries.Fit{Yes: true, Cut: i}); !sameView(w, entries.View{}) {
				t.Error("Do", i, told(v), told(w))
			}
		}
		if index, term := entries.Last(v); index != 0 || term != 0 {
			t.Error("Last", told(v), index, term)
		}
	}
}

// P1202: the last entry, or the base.
func TestLast(t *testing.T) {
	for _, c := range []struct {
		v           entries.View
		index, term int
	}{
		{entries.View{}, 0, 0},
		{view(0, 2), 0, 2},
		{view(7, 3), 7, 3},
		{view(7, 3, 3), 8, 3},
		{view(7, 3, 3, 5), 9, 5},
		{view(0, 0, 1, 1, 2), 3, 2},
		{view(topBase, api.MaxTerm-1), topBase, api.MaxTerm - 1},
		{entries.View{Base: topBase, Term: 1, L: commands(topBase, 2, api.MaxLog)}, topBase + api.MaxLog, 2},
	} {
		if index, term := entries.Last(c.v); index != c.index || term != c.term {
			t.Error(told(c.v), index, term)
		}
	}
}

// P1202: terms of entries and of the base; below and above them errors.
func TestTermOf(t *testing.T) {
	v := view(5, 2, 3, 3, 8)
	for _, c := range []struct {
		i, term int
		e       api.Errno
	}{
		{lowest, 0, api.ErrBelow},
		{-1, 0, api.ErrBelow},
		{0, 0, api.ErrBelow},
		{4, 0, api.ErrBelow},
		{5, 2, api.OK},
		{6, 3, api.OK},
		{7, 3, api.OK},
		{8, 8, api.OK},
		{9, 0, api.ErrNone},
		{topBase, 0, api.ErrNone},
		{highest, 0, api.ErrNone},
	} {
		if term, e := entries.TermOf(v, c.i); term != c.term || e != c.e {
			t.Error(c, term, e)
		}
	}
	for i, e := range map[int]api.Errno{-1: api.ErrBelow, 0: api.OK, 1: api.ErrNone} {
		if term, got := entries.TermOf(entries.View{}, i); term != 0 || got != e {
			t.Error("empty", i, term, got)
		}
	}
}

// P1202: entries from an index on, or from the first one; at most so many, which may be none.
func TestFrom(t *testing.T) {
	v := entries.View{Base: 5, Term: 1, L: commands(5, 2, 4)}
	for _, c := range []struct{ i, most, first, n int }{
		{6, 9, 6, 4},
		{6, 4, 6, 4},
		{6, 3, 6, 3},
		{7, 9, 7, 3},
		{7, 2, 7, 2},
		{9, 1, 9, 1},
		{9, highest, 9, 1},
		{10, 9, 0, 0},
		{highest, 9, 0, 0},
		{highest, highest, 0, 0},
		{5, 9, 6, 4},
		{5, 1, 6, 1},
		{0, 2, 6, 2},
		{-1, 9, 6, 4},
		{lowest, highest, 6, 4},
		{6, 0, 0, 0},
		{6, -1, 0, 0},
		{6, lowest, 0, 0},
	} {
		l := entries.From(v, c.i, c.most)
		var want []api.Entry
		if c.n > 0 {
			want = v.L[c.first-6:][:c.n]
		}
		if !sameList(l, want) {
			t.Error(c, l)
		}
	}
	if l := entries.From(view(5, 1), 5, 9); len(l) != 0 {
		t.Error("of no entries", l)
	}
	full := entries.View{L: commands(0, 1, api.MaxLog)}
	if l := entries.From(full, 1, highest); !sameList(l, full.L) {
		t.Error("of MaxLog", len(l))
	}
}

// P1202: the first entry of a term; the base is none.
func TestFirst(t *testing.T) {
	v := view(5, 2, 3, 3, 8, 8, 8, 9)
	for term, want := range map[int]int{lowest: 0, -1: 0, 0: 0, 1: 0, 2: 0, 3: 6, 4: 0, 7: 0, 8: 8, 9: 11, 10: 0, highest: 0} {
		if got := entries.First(v, term); got != want {
			t.Error(term, got, want)
		}
	}
	if entries.First(view(5, 2, 2), 2) != 6 || entries.First(view(5, 2), 2) != 0 || entries.First(entries.View{}, 0) != 0 {
		t.Error("a term that the base has")
	}
}
