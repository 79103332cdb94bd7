package watch_test

import (
	"testing"

	"hustings/api"
	"hustings/entries"
	"hustings/watch"
)

// seen: one that committed so far.
func seen(commit int, v entries.View) watch.Seen {
	return watch.Seen{Commit: commit, View: v}
}

// wantAgree: and the same in the other order (P2003), and nothing of one and the same (P2004).
func wantAgree(t *testing.T, a, b watch.Seen, want int) {
	t.Helper()
	if n := watch.Agree(a, b); n != want {
		t.Fatalf("Agree of %d %v and %d %v: %d, not %d", a.Commit, told(a.View), b.Commit, told(b.View), n, want)
	}
	if n := watch.Agree(b, a); n != want {
		t.Fatalf("Agree of %d %v and %d %v: %d, not %d as in the other order", b.Commit, told(b.View), a.Commit, told(a.View), n, want)
	}
	if x, y := watch.Agree(a, a), watch.Agree(b, b); x != 0 || y != 0 {
		t.Fatalf("Agree of %v, %v and themselves: %d, %d", told(a.View), told(b.View), x, y)
	}
}

// P2002: the least index up to both Commits at which they differ.
func TestAgree(t *testing.T) {
	a, b := view(0, 1, 1, 3), view(0, 1, 2, 2)
	for commit, want := range []int{0, 0, 2, 2, 2} {
		wantAgree(t, seen(commit, a), seen(commit, b), want)
		wantAgree(t, seen(commit, a), seen(highest, b), want)
		wantAgree(t, seen(highest, a), seen(commit, b), want)
	}
	for _, commit := range []int{-1, lowest} {
		wantAgree(t, seen(commit, a), seen(commit, b), 0)
		wantAgree(t, seen(commit, a), seen(highest, b), 0)
		wantAgree(t, seen(highest, a), seen(commit, b), 0)
	}
	// In term, in kind, or in data.
	same := view(0, 1, 1, 2)
	wantAgree(t, seen(3, same), seen(3, same), 0)
	wantAgree(t, seen(3, same), seen(3, with(same, 3, "")), 3)
	wantAgree(t, seen(2, same), seen(3, with(same, 3, "")), 0)
	wantAgree(t, seen(3, with(same, 1, "x")), seen(3, with(same, 1, "y")), 1)
	wantAgree(t, seen(3, with(same, 1, "x")), seen(3, with(same, 1, "x")), 0)
	wantAgree(t, seen(3, with(same, 3, "x")), seen(3, with(same, 2, "x")), 2)
	// Where both have entries, though one committed more than it has.
	wantAgree(t, seen(9, view(0, 1)), seen(9, view(0, 1, 1)), 0)
	wantAgree(t, seen(9, view(0)), seen(9, view(0, 1, 1)), 0)
	wantAgree(t, seen(9, view(0, 2)), seen(9, view(0, 1, 1)), 1)
}

// P2002: above both bases alone.
func TestAgreeOfBases(t *testing.T) {
	wantAgree(t, seen(9, view(0, 1, 1, 1)), seen(9, view(2, 1)), 0)
	wantAgree(t, seen(9, view(0, 1, 1, 1)), seen(9, view(2, 2)), 3)
	wantAgree(t, seen(2, view(0, 1, 1, 1)), seen(9, view(2, 2)), 0)
	wantAgree(t, seen(9, with(view(0, 1, 1, 1), 2, "x")), seen(9, view(2, 1)), 0)
	wantAgree(t, seen(9, view(0, 1, 1, 1)), seen(9, view(3, 2)), 0)
	wantAgree(t, seen(20, view(0, 1, 1, 1)), seen(20, view(9, 2)), 0)
	a, b := view(2, 5), view(2, 5)
	a.Term, b.Term = 4, 5
	wantAgree(t, seen(9, a), seen(9, b), 0)
}

// P2002: who they are, and whether they lead, does not matter.
func TestAgreeAlone(t *testing.T) {
	a, b := seen(2, view(0, 1)), seen(2, view(0, 1))
	a.ID, a.Term, a.Leads = 3, 9, true
	wantAgree(t, a, b, 0)
	b.View = view(0, 2)
	wantAgree(t, a, b, 1)
	b.ID, b.Term, b.Leads = 3, 9, true
	wantAgree(t, a, b, 1)
}

// P2002: at the limits of Views.
func TestAgreeAtLimits(t *testing.T) {
	last := topBase + api.MaxLog
	a := long(topBase, api.MaxTerm-1, api.MaxLog)
	wantAgree(t, seen(highest, a), seen(highest, with(a, last, "x")), last)
	wantAgree(t, seen(last, a), seen(last, with(a, last, "x")), last)
	wantAgree(t, seen(last-1, a), seen(last, with(a, last, "x")), 0)
	wantAgree(t, seen(highest, a), seen(highest, a), 0)
}

// P2001: a View that may not be is as an empty one.
func TestAgreeOfWrongViews(t *testing.T) {
	good := lists(t, []int{0, 2}, []int{0, 1, 2}, nil)
	for _, v := range wrongViews(t) {
		wantAgree(t, seen(highest, v), seen(highest, good), 0)
		wantAgree(t, seen(highest, v), seen(highest, view(0)), 0)
		wantAgree(t, seen(highest, v), seen(highest, view(topBase, 7)), 0)
	}
}

// P2002, P2003, P2004: all pairs of small Views by all that they committed, against the chapter's words.
func TestAgreeOfAllSmall(t *testing.T) {
	found := 0
	all := smallViews([]int{0, 1}, 3, "x")
	for _, a := range all {
		for _, b := range all {
			for commits := range 25 {
				x, y := seen(commits/5, a), seen(commits%5, b)
				want := agreeing(x, y)
				wantAgree(t, x, y, want)
				if want != 0 {
					found++
				}
			}
		}
	}
	if found < 1000 {
		t.Error(found)
	}
}
