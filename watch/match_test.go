package watch_test

import (
	"testing"

	"hustings/api"
	"hustings/entries"
	"hustings/watch"
)

// wantMatch: and the same in the other order (P2003), and nothing of one and the same (P2004).
func wantMatch(t *testing.T, a, b entries.View, want int) {
	t.Helper()
	if n := watch.Match(a, b); n != want {
		t.Fatalf("Match of %v and %v: %d, not %d", told(a), told(b), n, want)
	}
	if n := watch.Match(b, a); n != want {
		t.Fatalf("Match of %v and %v: %d, not %d as in the other order", told(b), told(a), n, want)
	}
	if x, y := watch.Match(a, a), watch.Match(b, b); x != 0 || y != 0 {
		t.Fatalf("Match of %v, %v and themselves: %d, %d", told(a), told(b), x, y)
	}
}

// P2002: the chapter's example, and others.
func TestMatch(t *testing.T) {
	wantMatch(t, view(0, 1, 1, 2), view(0, 1, 2, 2), 2)
	wantMatch(t, view(0), view(0), 0)
	wantMatch(t, view(0), view(0, 1, 1), 0)
	wantMatch(t, view(0, 1, 1), view(0, 1, 1, 1), 0)
	// Behind the last one that has the same term they may differ.
	wantMatch(t, view(0, 1, 1), view(0, 1, 2), 0)
	wantMatch(t, view(0, 1, 1, 1), view(0, 2, 2, 2), 0)
	wantMatch(t, view(0, 1, 1, 1, 3), view(0, 1, 2, 2, 2), 0)
	// The least one at which they differ, of several; it may be the first.
	wantMatch(t, view(0, 1, 1, 1, 4), view(0, 2, 3, 3, 4), 1)
	wantMatch(t, view(0, 1, 1, 1, 1, 4, 5), view(0, 1, 2, 3, 3, 4, 6), 2)
	// It may be that greatest index itself, by its kind or data.
	same := view(0, 1, 1, 2)
	wantMatch(t, same, with(same, 3, ""), 3)
	wantMatch(t, with(same, 3, "x"), with(same, 3, "y"), 3)
	wantMatch(t, with(same, 3, "x"), with(same, 3, "xx"), 3)
	wantMatch(t, with(same, 3, "x"), with(same, 3, "x"), 0)
	wantMatch(t, with(same, 1, "x"), with(same, 3, "x"), 1)
	wantMatch(t, with(same, 2, "x"), view(0, 1, 1, 2, 2), 2)
}

// P2002: above both bases alone, whatever these are.
func TestMatchOfBases(t *testing.T) {
	wantMatch(t, view(0, 1, 1, 1, 3), view(2, 2, 3), 3)
	wantMatch(t, view(0, 1, 2, 3, 3), view(2, 3, 3), 0)
	wantMatch(t, view(0, 1, 2, 3, 3), view(3, 3), 0)
	wantMatch(t, with(view(0, 1, 2, 3, 3), 4, "x"), view(3, 3), 4)
	wantMatch(t, with(view(0, 1, 2, 3, 3), 3, "x"), view(3, 3), 0)
	wantMatch(t, view(0, 1, 2, 3), view(3, 3), 0)
	wantMatch(t, view(0, 1, 2, 3), view(3), 0)
	wantMatch(t, view(0, 1, 2, 3), view(9, 3, 3), 0)
	// A base's own term is no entry's.
	a, b := view(2, 5), view(0, 1, 1, 6)
	a.Term = 4
	wantMatch(t, a, b, 0)
	b = view(2, 5)
	b.Term = 5
	wantMatch(t, a, b, 0)
	wantMatch(t, with(a, 3, "x"), b, 3)
}

// P2002: at the limits of Views.
func TestMatchAtLimits(t *testing.T) {
	a := long(topBase, api.MaxTerm-1, api.MaxLog)
	wantMatch(t, a, a, 0)
	wantMatch(t, a, with(a, topBase+api.MaxLog, "x"), topBase+api.MaxLog)
	wantMatch(t, a, with(a, topBase+1, "x"), topBase+1)
	wantMatch(t, a, long(0, 1, api.MaxLog), 0)
	data := string(make([]byte, 4096))
	wantMatch(t, with(a, topBase+5, data), with(a, topBase+5, data[1:]), topBase+5)
	wantMatch(t, with(a, topBase+5, data), with(a, topBase+5, data), 0)
}

// P2001: nil and empty data mean the same, nil and empty lists of entries, too.
func TestMatchOfNil(t *testing.T) {
	a, b := view(0, 1, 1), view(0, 1, 1)
	a.L[0].Data, b.L[0].Data = nil, []byte{}
	a.L[1] = api.Entry{Term: 1, Index: 2, Kind: api.Command}
	b.L[1] = api.Entry{Term: 1, Index: 2, Kind: api.Command, Data: []byte{}}
	wantMatch(t, a, b, 0)
	wantMatch(t, entries.View{}, entries.View{L: []api.Entry{}}, 0)
}

// P2001: a View that may not be is as an empty one.
func TestMatchOfWrongViews(t *testing.T) {
	good := lists(t, []int{0, 2}, []int{0, 1, 2}, nil)
	wantMatch(t, good, lists(t, []int{0}, []int{0, 1, 2}), 1)
	for _, v := range wrongViews(t) {
		wantMatch(t, v, good, 0)
		wantMatch(t, v, view(0), 0)
		wantMatch(t, v, lists(t, []int{0}, []int{0, 1, 2}), 0)
	}
}

// P2002, P2003, P2004: all pairs of small Views, against the chapter's words.
func TestMatchOfAllSmall(t *testing.T) {
	found := 0
	all := smallViews([]int{0, 1, 2}, 3, "", "x")
	for _, a := range all {
		for _, b := range all {
			want := matching(a, b)
			wantMatch(t, a, b, want)
			if want != 0 {
				found++
			}
		}
	}
	if found < 1000 {
		t.Error(found)
	}
}
