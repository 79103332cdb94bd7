package entries_test

import (
	"bytes"
	"slices"
	"testing"

	"hustings/api"
	"hustings/entries"
)

// roomy: the same entries in memory of their own, each list with room behind it.
func roomy(l []api.Entry) []api.Entry {
	c := make([]api.Entry, 0, len(l)+2)
	for _, x := range l {
		x.Data = append(make([]byte, 0, len(x.Data)+4), x.Data...)
		c = append(c, x)
	}
	return c
}

// spoil: writes into entries, into their data, and into the room behind both.
func spoil(l []api.Entry) {
	for _, x := range l {
		for i := range x.Data[:cap(x.Data)] {
			x.Data[:cap(x.Data)][i] ^= 0xa5
		}
	}
	for i := range l[:cap(l)] {
		l[:cap(l)][i] = api.Entry{Term: 77, Index: 77, Kind: 77, Data: []byte("77")}
	}
}

// untouched: are they as they were, and the room behind them?
func untouched(l, before []api.Entry) bool {
	clean := sameList(l, before)
	for _, x := range l {
		room := x.Data[len(x.Data):cap(x.Data)]
		clean = clean && bytes.Count(room, []byte{0}) == len(room)
	}
	return clean && !slices.ContainsFunc(l[len(l):cap(l)], func(x api.Entry) bool { return x.Kind != 0 || x.Data != nil })
}

// wantApart: no two lists of one answer share anything: each one's data is added to, and that of all others stays.
func wantApart(t *testing.T, what string, l []api.Entry) {
	t.Helper()
	before := roomy(l)
	for i := range l {
		x := append(l[i].Data, "more"...)
		for k := range x {
			x[k] ^= 0x5a
		}
		for k := range l {
			if k != i && !sameEntry(l[k], before[k]) {
				t.Errorf("%s: the data of entries %d and %d share memory", what, i, k)
			}
		}
		before[i].Data = bytes.Clone(l[i].Data)
	}
}

// P1201: nothing that is handed in is changed, or kept in an answer, nor do two answers share anything.
func TestMemory(t *testing.T) {
	here, sent := commands(2, 1, 4), append(commands(4, 1, 1), commands(5, 3, 2)...)
	for what, call := range map[string]func(v entries.View, l []api.Entry) []api.Entry{
		"From":         func(v entries.View, l []api.Entry) []api.Entry { return entries.From(v, 0, 9) },
		"From some":    func(v entries.View, l []api.Entry) []api.Entry { return entries.From(v, 4, 2) },
		"Try with Cut": func(v entries.View, l []api.Entry) []api.Entry { return entries.Try(v, 4, 1, l).Add },
		"Try behind": func(v entries.View, l []api.Entry) []api.Entry {
			v.L = v.L[:2]
			return entries.Try(v, 4, 1, l).Add
		},
		"Do with Cut": func(v entries.View, l []api.Entry) []api.Entry {
			return entries.Do(v, entries.Fit{Yes: true, Cut: 5, Add: l}).L
		},
		"Do behind": func(v entries.View, l []api.Entry) []api.Entry {
			v.L = v.L[:2]
			return entries.Do(v, entries.Fit{Yes: true, Add: l}).L
		},
		"Do cutting only": func(v entries.View, l []api.Entry) []api.Entry {
			return entries.Do(v, entries.Fit{Yes: true, Cut: 5}).L
		},
		"Do nothing": func(v entries.View, l []api.Entry) []api.Entry { return entries.Do(v, entries.Fit{}).L },
		"Do as it is": func(v entries.View, l []api.Entry) []api.Entry {
			return entries.Do(v, entries.Fit{Yes: true, Cut: 6, Add: l}).L
		},
	} {
		v, l := entries.View{Base: 2, Term: 1, L: roomy(here)}, roomy(sent)
		one, two := call(v, l), call(v, l)
		want := roomy(two)
		if len(want) == 0 {
			t.Error(what, "answered nothing")
		}
		spoil(one)
		if !untouched(v.L, here) || !untouched(l, sent) {
			t.Errorf("%s: what was handed in was changed, or is shared with the answer", what)
		}
		spoil(v.L)
		spoil(l)
		if !sameList(two, want) {
			t.Errorf("%s hangs on another answer, or on what was handed in", what)
		}
		wantApart(t, what, two)
	}
}

// P1201: looks change nothing.
func TestLooksChangeNothing(t *testing.T) {
	here := commands(2, 1, 4)
	v := entries.View{Base: 2, Term: 1, L: roomy(here)}
	entries.Right(v)
	entries.Last(v)
	entries.TermOf(v, 4)
	entries.First(v, 1)
	entries.Try(v, 9, 1, v.L[:0])
	if !untouched(v.L, here) {
		t.Error(v.L)
	}
}
