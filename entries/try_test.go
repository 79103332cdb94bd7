package entries_test

import (
	"testing"

	"hustings/api"
	"hustings/entries"
)

func wantFit(t *testing.T, v entries.View, prev, term int, l []api.Entry, want entries.Fit) {
	t.Helper()
	if f := entries.Try(v, prev, term, l); !sameFit(f, want) {
		t.Errorf("Try of %v, %d, %d, %v: %v, want %v", told(v), prev, term, l, f, want)
	}
}

// P1203: no: what is sent begins behind an entry that is not here.
func TestTryNo(t *testing.T) {
	v := view(0, 0, 1, 1, 2)
	for _, c := range []struct {
		v          entries.View
		prev, term int
		l          []api.Entry
		hint       int
	}{
		{v, 4, 2, nil, 4},
		{v, 4, 2, row(4, 2, 3), 4},
		{v, 9, 2, nil, 4},
		{v, 9, 0, nil, 4},
		{v, highest, highest, nil, 4},
		{v, 1<<40 - 2, 2, row(1<<40-2, 2), 4},
		{v, 3, 1, nil, 3},
		{v, 3, 1, row(3, 1), 3},
		{v, 3, 3, nil, 3},
		{v, 3, highest, nil, 3},
		{v, 3, 0, nil, 3},
		{v, 2, 2, row(2, 2, 2), 1},
		{v, 1, 2, nil, 1},
		{v, 0, 1, nil, 1},
		{entries.View{}, 0, 1, nil, 1},
		{entries.View{}, 1, 1, nil, 1},
		{view(0, 0, 1, 2, 2, 2), 4, 3, nil, 2},
		{view(5, 2), 5, 1, nil, 6},
		{view(5, 2), 5, 3, row(5, 3), 6},
		{view(5, 2), 6, 2, nil, 6},
		{view(5, 2, 2, 2), 7, 1, nil, 6},
		{view(5, 2, 3, 3), 7, 2, nil, 6},
		{view(5, 2, 2, 3, 3), 8, 2, nil, 7},
		{view(5, 2, 2, 3, 3), 5, 3, nil, 6},
		{view(topBase, 2), topBase + 1, 2, nil, topBase + 1},
	} {
		wantFit(t, c.v, c.prev, c.term, c.l, entries.Fit{Match: c.hint})
	}
}

// P1203: yes: what matches, what goes, and what comes.
func TestTryYes(t *testing.T) {
	v := view(0, 0, 1, 1, 2)
	for _, c := range []struct {
		v          entries.View
		prev, term int
		l          []api.Entry
		match, cut int
		add        []api.Entry
	}{
		{v, 3, 2, row(3, 3), 4, 0, row(3, 3)},
		{v, 3, 2, nil, 3, 0, nil},
		{v, 3, 2, []api.Entry{}, 3, 0, nil},
		{v, 0, 0, nil, 0, 0, nil},
		{v, 1, 1, row(1, 5), 2, 2, row(1, 5)},
		{v, 1, 1, row(1, 5, 6), 3, 2, row(1, 5, 6)},
		{v, 1, 1, row(1, 1), 2, 0, nil},
		{v, 1, 1, row(1, 1, 2), 3, 0, nil},
		{v, 1, 1, row(1, 1, 2, 2, 4), 5, 0, row(3, 2, 4)},
		{v, 1, 1, row(1, 1, 3, 4), 4, 3, row(2, 3, 4)},
		{v, 0, 0, row(0, 1, 1, 2), 3, 0, nil},
		{v, 0, 0, row(0, 2), 1, 1, row(0, 2)},
		{v, 0, 0, row(0, 1, 1, 1, 1, 1, 1, 1, 1), 8, 3, row(2, 1, 1, 1, 1, 1, 1)},
		{entries.View{}, 0, 0, row(0, 1, 2), 2, 0, row(0, 1, 2)},
		{view(5, 2, 2, 3), 5, 2, row(5, 2), 6, 0, nil},
		{view(5, 2, 2, 3), 5, 2, row(5, 4), 6, 6, row(5, 4)},
		{view(5, 2, 2, 3), 4, 2, nil, 5, 0, nil},
		{view(5, 2, 2, 3), 0, highest, nil, 5, 0, nil},
		{view(5, 2, 2, 3), 0, 0, row(0, 9, 9), 5, 0, nil},
		{view(5, 2, 2, 3), 3, 1, row(3, 1, 1), 5, 0, nil},
		{view(5, 2, 2, 3), 3, 1, row(3, 1, 1, 2), 6, 0, nil},
		{view(5, 2, 2, 3), 3, 1, row(3, 1, 1, 2, 3, 3), 8, 0, row(7, 3)},
		{view(5, 2, 2, 3), 3, 9, row(3, 9, 9, 9), 6, 6, row(5, 9)},
		{view(5, 2), 3, 1, row(3, 1, 2, 2), 6, 0, row(5, 2)},
		{view(topBase, 2), topBase, 2, row(topBase, 2), topBase + 1, 0, row(topBase, 2)},
		{view(0, 0, api.MaxTerm-1), 1, api.MaxTerm - 1, row(1, api.MaxTerm-1), 2, 0, row(1, api.MaxTerm-1)},
	} {
		wantFit(t, c.v, c.prev, c.term, c.l, entries.Fit{Yes: true, Match: c.match, Cut: c.cut, Add: c.add})
	}
}

// P1201, P1203: what no leader sends is told nothing of, wherever it would stand.
func TestTryOfWrongEntries(t *testing.T) {
	v := view(2, 1, 1, 1)
	for _, c := range []struct {
		prev, term int
		l          []api.Entry
	}{
		{-1, 1, nil},
		{-1, 1, row(-1, 1)},
		{lowest, 1, nil},
		{4, -1, nil},
		{4, lowest, row(4, 1)},
		{0, -1, nil},
		{9, -1, nil},
		{4, 1, row(4, 1, 1, 1, 1, 1, 1, 1, 1, 1)},
		{9, 1, row(9, 1, 1, 1, 1, 1, 1, 1, 1, 1)},
		{4, 1, make([]api.Entry, 100000)},
		{4, 1, row(5, 1)},
		{4, 1, row(3, 1)},
		{9, 1, row(4, 1)},
		{4, 1, append(row(4, 1), row(6, 1)...)},
		{4, 1, append(row(4, 1), row(4, 1)...)},
		{4, 2, row(4, 1)},
		{9, 2, row(9, 1)},
		{0, 2, row(0, 1)},
		{4, 1, row(4, 3, 2)},
		{4, highest, row(4, 1)},
		{0, 0, row(0, 0)},
		{1<<40 - 1, 1, row(1<<40-1, 1)},
		{highest, 1, []api.Entry{{Term: 1, Index: lowest, Kind: api.Nothing}}},
	} {
		wantFit(t, v, c.prev, c.term, c.l, entries.Fit{})
	}
	for _, x := range wrongEntries(6, 1) {
		wantFit(t, v, 4, 1, append(row(4, 1), x), entries.Fit{})
		wantFit(t, v, 4, 1, append(row(4, 1), append([]api.Entry{x}, row(6, 1)...)...), entries.Fit{})
		wantFit(t, v, 5, 1, []api.Entry{x}, entries.Fit{})
	}
}

// P1203: entries are held against each other by their terms alone, and handed on as they came.
func TestTryHandsOnData(t *testing.T) {
	v := entries.View{L: commands(0, 1, 3)}
	other := []api.Entry{{Term: 1, Index: 3, Kind: api.Command, Data: []byte("else")}, {Term: 2, Index: 4, Kind: api.Servers, Data: serversOf(t, 1, 2)}}
	wantFit(t, v, 2, 1, other, entries.Fit{Yes: true, Match: 4, Add: other[1:]})
	w := entries.Do(v, entries.Try(v, 2, 1, other))
	if want := (entries.View{L: append(commands(0, 1, 3), other[1])}); !sameView(w, want) {
		t.Error(w, want)
	}
	most := api.Entry{Term: 2, Index: 3, Kind: api.Command, Data: make([]byte, 4096)}
	w = entries.Do(v, entries.Try(v, 2, 1, []api.Entry{most}))
	if want := (entries.View{L: append(commands(0, 1, 2), most)}); !sameView(w, want) {
		t.Error(told(w))
	}
}

func wantDo(t *testing.T, v entries.View, f entries.Fit, want entries.View) {
	t.Helper()
	if w := entries.Do(v, f); !sameView(w, want) {
		t.Errorf("Do of %v and Cut %d, %d to add: %v, want %v", told(v), f.Cut, len(f.Add), told(w), told(want))
	}
}

// P1203: Do goes by Cut and Add, whoever made the Fit.
func TestDo(t *testing.T) {
	v := view(5, 2, 2, 3, 3)
	for _, c := range []struct {
		cut   int
		add   []api.Entry
		terms []int
	}{
		{0, nil, []int{2, 3, 3}},
		{0, row(8, 3, 9), []int{2, 3, 3, 3, 9}},
		{8, nil, []int{2, 3}},
		{8, row(7, 4), []int{2, 3, 4}},
		{7, row(6, 2, 2), []int{2, 2, 2}},
		{6, nil, nil},
		{6, row(5, 4), []int{4}},
		{5, nil, nil},
		{1, row(5, 4), []int{4}},
		{-1, row(5, 4), []int{4}},
		{lowest, row(5, 4), []int{4}},
		{9, nil, []int{2, 3, 3}},
		{9, row(8, 3), []int{2, 3, 3, 3}},
		{highest, row(8, 3), []int{2, 3, 3, 3}},
		{8, row(7, 4, 4, 4, 4, 4, 4, 4, 4, 4, 4), []int{2, 3, 4, 4, 4, 4, 4, 4, 4, 4, 4, 4}},
	} {
		f := entries.Fit{Yes: true, Match: 77, Cut: c.cut, Add: c.add}
		wantDo(t, v, f, view(5, 2, c.terms...))
		f.Yes, f.Match = false, 0
		wantDo(t, v, f, view(5, 2, c.terms...))
	}
	wantDo(t, entries.View{}, entries.Fit{}, entries.View{})
	wantDo(t, v, entries.Try(v, 9, 3, row(9, 3)), v)
}

// P1203: as it is, where no View that may be would come of it.
func TestDoAsItIs(t *testing.T) {
	v := view(5, 2, 2, 3, 3)
	for _, f := range []entries.Fit{
		{Add: row(9, 3)},
		{Add: row(7, 3)},
		{Add: row(5, 3)},
		{Add: row(8, 2)},
		{Add: append(row(8, 3), row(10, 3)...)},
		{Add: row(8, 4, 3)},
		{Cut: 7, Add: row(8, 3)},
		{Cut: 7, Add: row(7, 3)},
		{Cut: 7, Add: row(6, 1)},
		{Cut: 6, Add: row(5, 1)},
		{Cut: 3, Add: row(2, 2)},
		{Cut: -1, Add: row(-2, 2)},
		{Cut: 8, Add: row(7, api.MaxTerm)},
		{Add: []api.Entry{{Term: 3, Index: highest, Kind: api.Nothing}}},
		{Add: []api.Entry{{Term: 3, Index: lowest, Kind: api.Nothing}}},
		{Cut: 6, Add: make([]api.Entry, 100000)},
	} {
		f.Yes = true
		wantDo(t, v, f, v)
	}
	for _, x := range wrongEntries(9, 3) {
		wantDo(t, v, entries.Fit{Yes: true, Add: []api.Entry{x}}, v)
		wantDo(t, v, entries.Fit{Yes: true, Cut: 7, Add: append(row(6, 3, 3), x)}, v)
	}
}

// P1201: of a View that may not be Do tells nothing, also where its Fit would cut off what is wrong with it.
func TestDoMendsNothing(t *testing.T) {
	for _, v := range []entries.View{view(0, 0, 3, 2), {L: append(row(0, 1), row(5, 1)...)}, {L: commands(0, 1, api.MaxLog+1)}} {
		for _, f := range []entries.Fit{{Cut: 2}, {Cut: 2, Add: row(1, 4)}, {Cut: 1}} {
			wantDo(t, v, f, entries.View{})
		}
	}
}

// P1203: entries for which there is no room fit, but do not come.
func TestNoRoom(t *testing.T) {
	for have := api.MaxLog - api.MaxBatch - 1; have <= api.MaxLog; have++ {
		v := entries.View{Base: 3, Term: 1, L: commands(3, 1, have)}
		sent := commands(3+have, 1, api.MaxBatch)
		f := entries.Try(v, 3+have, 1, sent)
		if !sameFit(f, entries.Fit{Yes: true, Match: 3 + have + api.MaxBatch, Add: sent}) {
			t.Error(have, f)
		}
		want := v
		if have+api.MaxBatch <= api.MaxLog {
			want.L = append(commands(3, 1, have), sent...)
		}
		wantDo(t, v, f, want)
	}
	full := entries.View{L: commands(0, 1, api.MaxLog)}
	sent := row(api.MaxLog-4, 2, 2, 2, 2)
	f := entries.Try(full, api.MaxLog-4, 1, sent)
	wantDo(t, full, f, entries.View{L: append(commands(0, 1, api.MaxLog-4), sent...)})
	sent = row(api.MaxLog-4, 2, 2, 2, 2, 2)
	f = entries.Try(full, api.MaxLog-4, 1, sent)
	wantDo(t, full, f, full)
	f = entries.Try(full, 0, 0, commands(0, 1, api.MaxBatch))
	wantDo(t, full, f, full)
}

// P1203: entries that fit below the base, and then fall below its term, fit, but do not come.
func TestTermsBelowTheBase(t *testing.T) {
	for _, v := range []entries.View{view(5, 3), view(5, 3, 3, 4)} {
		sent := row(4, 1, 1)
		f := entries.Try(v, 4, 1, sent)
		if !f.Yes || f.Match != 6 || !sameList(f.Add, sent[1:]) {
			t.Error(f)
		}
		wantDo(t, v, f, v)
	}
}
