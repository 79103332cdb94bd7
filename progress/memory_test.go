package progress_test

import (
	"bytes"
	"slices"
	"testing"

	"hustings/api"
	"hustings/entries"
	"hustings/progress"
)

// roomy: the same entries in memory of their own, each list with room behind it.
func roomy(l []api.Entry) []api.Entry {
	c := make([]api.Entry, 0, len(l)+2)
	for _, x := range l {
		x.Data = append(make([]byte, 0, len(x.Data)+4), x.Data...)
		c = append(c, x)
	}
	return c
}

// spoil: writes into entries, into their data, and into the room behind both.
func spoil(l []api.Entry) {
	for _, x := range l {
		for i := range x.Data[:cap(x.Data)] {
			x.Data[:cap(x.Data)][i] ^= 0xa5
		}
	}
	for i := range l[:cap(l)] {
		l[:cap(l)][i] = api.Entry{Term: 77, Index: 77, Kind: 77, Data: []byte("77")}
	}
}

// untouched: are they as they were, and the room behind them?
func untouched(l, before []api.Entry) bool {
	clean := sameList(l, before)
	for _, x := range l {
		room := x.Data[len(x.Data):cap(x.Data)]
		clean = clean && bytes.Count(room, []byte{0}) == len(room)
	}
	return clean && !slices.ContainsFunc(l[len(l):cap(l)], func(x api.Entry) bool { return x.Kind != 0 || x.Data != nil })
}

// P1301: what a Batch tells shares nothing with its View, nor with another Batch, nor one entry's data with another one's.
func TestBatchMemory(t *testing.T) {
	all := row(2, 1, 1, 2, 2)
	for next := 3; next <= 7; next++ {
		v := entries.View{Base: 2, Term: 1, L: roomy(all)}
		a, b := progress.Batch(v, next), progress.Batch(v, next)
		if !untouched(v.L, all) {
			t.Fatal(next, "changed what was handed in")
		}
		want := roomy(b.Entries)
		for i := range a.Entries {
			rest := roomy(a.Entries)
			spoil(a.Entries[i : i+1 : i+1])
			if !sameList(a.Entries[i+1:], rest[i+1:]) {
				t.Fatal(next, i, "two entries share their data")
			}
		}
		spoil(a.Entries)
		if !untouched(v.L, all) || !sameList(b.Entries, want) {
			t.Fatal(next, "an answer shares memory")
		}
		spoil(v.L)
		if !sameList(b.Entries, want) {
			t.Fatal(next, "an answer shares memory with what was handed in")
		}
	}
}

// P1301: Commit leaves what is handed in, and the room behind it, as it is.
func TestCommitMemory(t *testing.T) {
	all := row(0, 1, 1, 2)
	v := entries.View{L: roomy(all)}
	servers, match := []int{7, 1, 9, -4}, []int{3, 1, 2, -8, 6}
	if n := progress.Commit(v, servers[:3], match[:3], 0, 1); n != 2 {
		t.Error(n)
	}
	if !untouched(v.L, all) || !slices.Equal(servers, []int{7, 1, 9, -4}) || !slices.Equal(match, []int{3, 1, 2, -8, 6}) {
		t.Error(v, servers, match)
	}
}

// P1301: the same arguments have the same answer, whatever was called between.
func TestPure(t *testing.T) {
	v := view(2, 1, 1, 2, 2)
	for range 3 {
		if p := progress.Heard(progress.Begin(5), false, 3, 5); p != (progress.Peer{Next: 3}) {
			t.Error(p)
		}
		if s := progress.Batch(v, 4); !sameSend(s, progress.Send{Prev: 3, Term: 1, Entries: v.L[1:]}) {
			t.Error(s)
		}
		if n := progress.Commit(v, []int{1, 2, 3}, []int{5, 4, 3}, 2, 2); n != 4 {
			t.Error(n)
		}
	}
}
