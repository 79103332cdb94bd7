package progress_test

import (
	"testing"

	"hustings/api"
	"hustings/entries"
	"hustings/progress"
)

// P1303: a snapshot at or below Base, else the entries from next on, behind the one ahead of them.
func TestBatch(t *testing.T) {
	v := view(2, 1, 1, 2, 2)
	for _, c := range []struct {
		next int
		want progress.Send
	}{
		{lowest, progress.Send{Snap: true}},
		{lowest + 1, progress.Send{Snap: true}},
		{-1, progress.Send{Snap: true}},
		{0, progress.Send{Snap: true}},
		{1, progress.Send{Snap: true}},
		{2, progress.Send{Snap: true}},
		{3, progress.Send{Prev: 2, Term: 1, Entries: v.L}},
		{4, progress.Send{Prev: 3, Term: 1, Entries: v.L[1:]}},
		{5, progress.Send{Prev: 4, Term: 2, Entries: v.L[2:]}},
		{6, progress.Send{Prev: 5, Term: 2}},
		{7, progress.Send{Prev: 5, Term: 2}},
		{topBase, progress.Send{Prev: 5, Term: 2}},
		{highest, progress.Send{Prev: 5, Term: 2}},
	} {
		if s := progress.Batch(v, c.next); !sameSend(s, c.want) {
			t.Error(c.next, s)
		}
	}
}

// P1303: of a View without entries, and of one with a base of nothing.
func TestBatchOfFew(t *testing.T) {
	for _, c := range []struct {
		v    entries.View
		next int
		want progress.Send
	}{
		{entries.View{}, lowest, progress.Send{Snap: true}},
		{entries.View{}, -1, progress.Send{Snap: true}},
		{entries.View{}, 0, progress.Send{Snap: true}},
		{entries.View{}, 1, progress.Send{}},
		{entries.View{}, 2, progress.Send{}},
		{entries.View{}, highest, progress.Send{}},
		{view(7, 3), 7, progress.Send{Snap: true}},
		{view(7, 3), 8, progress.Send{Prev: 7, Term: 3}},
		{view(7, 3), 9, progress.Send{Prev: 7, Term: 3}},
		{view(0, 0, 4), 1, progress.Send{Entries: row(0, 4)}},
		{view(0, 0, 4), 2, progress.Send{Prev: 1, Term: 4}},
	} {
		if s := progress.Batch(c.v, c.next); !sameSend(s, c.want) {
			t.Error(told(c.v), c.next, s)
		}
	}
}

// P1303: at most MaxBatch entries, those next to Prev; also at the limits of a View.
func TestBatchOfMany(t *testing.T) {
	for _, v := range []entries.View{long(3, 2, 20), long(0, 1, api.MaxLog), long(topBase, api.MaxTerm-1, api.MaxLog)} {
		last := v.Base + len(v.L)
		for _, next := range []int{v.Base + 1, v.Base + 2, v.Base + 9, last - 8, last - 7, last - 6, last, last + 1} {
			rest := v.L[next-v.Base-1:]
			want := progress.Send{Prev: next - 1, Term: v.Term, Entries: rest[:min(len(rest), api.MaxBatch)]}
			if s := progress.Batch(v, next); !sameSend(s, want) {
				t.Error(told(v), next, s.Prev, s.Term, len(s.Entries))
			}
		}
	}
}

// P1303: of a View that may not be nothing is sent, whatever is next.
func TestBatchOfWrongViews(t *testing.T) {
	for _, v := range wrongViews() {
		for _, next := range []int{lowest, -1, 0, 1, 2, 3, 6, 7, topBase + 2, highest} {
			if s := progress.Batch(v, next); !sameSend(s, progress.Send{}) {
				t.Error(told(v), next, s.Snap, s.Prev, s.Term, len(s.Entries))
			}
		}
	}
}

// P1303: what a Batch sends fits a log that is the same up to Prev, and makes it the same up to the last one sent.
func TestBatchFits(t *testing.T) {
	for _, terms := range rises(1, 2, 4) {
		v := view(2, 1, terms...)
		for next := 3; next <= 8; next++ {
			s := progress.Batch(v, next)
			peer := v
			peer.L = v.L[:s.Prev-2]
			f := entries.Try(peer, s.Prev, s.Term, s.Entries)
			if peer = entries.Do(peer, f); !f.Yes || !sameList(peer.L, v.L) {
				t.Fatal(told(v), next, s, f)
			}
		}
	}
}
