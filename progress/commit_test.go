package progress_test

import (
	"testing"

	"hustings/api"
	"hustings/entries"
	"hustings/progress"
)

// P1304: the chapter's example, and others of the same log.
func TestCommit(t *testing.T) {
	v := view(0, 0, 1, 1, 2)
	for _, c := range []struct {
		servers, match     []int
		commit, term, want int
	}{
		{[]int{0, 1, 2}, []int{3, 3, 0}, 0, 2, 3},
		{[]int{0, 1, 2}, []int{3, 3, 0}, 0, 1, 2},
		{[]int{0, 1, 2}, []int{3, 3, 0}, 0, 3, 0},
		{[]int{0, 1, 2}, []int{3, 3, 0}, 2, 1, 2},
		{[]int{0, 1, 2}, []int{3, 3, 0}, 1, 1, 2},
		{[]int{0, 1, 2}, []int{3, 3, 0}, 3, 2, 3},
		{[]int{0, 1, 2}, []int{3, 3, 0}, 9, 2, 9},
		{[]int{0, 1, 2}, []int{3, 3, 0}, highest, 2, highest},
		{[]int{0, 1, 2}, []int{3, 3, 0}, -1, 2, 3},
		{[]int{0, 1, 2}, []int{3, 3, 0}, -7, 9, -7},
		{[]int{0, 1, 2}, []int{3, 3, 0}, lowest, 1, 2},
		{[]int{0, 1, 2}, []int{3, 3, 0}, lowest, 0, lowest},
		{[]int{0, 1, 2}, []int{3, 2, 2}, 0, 2, 0},
		{[]int{0, 1, 2}, []int{3, 2, 2}, 0, 1, 2},
		{[]int{0, 1, 2}, []int{3, 1, 1}, 0, 1, 1},
		{[]int{0, 1, 2}, []int{3, 0, 0}, 0, 1, 0},
		{[]int{0, 1, 2}, []int{9, 9, 0}, 0, 2, 3},
		{[]int{0, 1, 2}, []int{highest, highest, lowest}, 0, 2, 3},
		{[]int{0, 1, 2}, []int{lowest, lowest, highest}, 0, 2, 0},
		{[]int{0, 1, 2}, []int{3, 3}, 0, 2, 3},
		{[]int{0, 1, 2}, []int{3}, 0, 2, 0},
		{[]int{0, 1, 2}, nil, 0, 1, 0},
		{[]int{0, 1, 2}, []int{0, 0, 0, 3, 3, 3}, 0, 2, 0},
		{[]int{0, 1, 2, 3}, []int{3, 3, 0, 0}, 0, 2, 0},
		{[]int{0, 1, 2, 3}, []int{3, 3, 3, 0}, 0, 2, 3},
		{[]int{5}, []int{3}, 0, 2, 3},
		{nil, []int{3, 3, 3}, 0, 2, 0},
		{nil, []int{3, 3, 3}, -5, 2, -5},
		{[]int{-1, -1, 77}, []int{3, 0, 3}, 0, 2, 3},
	} {
		if n := progress.Commit(v, c.servers, c.match, c.commit, c.term); n != c.want {
			t.Error(c, n)
		}
	}
}

// P1304: Base is not told, though its term is that one; nor is anything of a View that may not be.
func TestCommitOfBase(t *testing.T) {
	for _, c := range []struct {
		v                  entries.View
		commit, term, want int
	}{
		{view(5, 2), 0, 2, 0},
		{view(5, 2), 4, 2, 4},
		{view(5, 2, 2), 0, 2, 6},
		{view(5, 2, 3), 0, 2, 0},
		{view(5, 2, 3), 0, 3, 6},
		{view(5, 2, 3), 6, 3, 6},
		{entries.View{}, -1, 0, -1},
		{view(topBase, 1, 1), topBase, 1, topBase + 1},
		{long(topBase, api.MaxTerm-1, api.MaxLog), 0, api.MaxTerm - 1, topBase + api.MaxLog},
	} {
		if n := progress.Commit(c.v, []int{1, 2, 3}, []int{highest, highest, highest}, c.commit, c.term); n != c.want {
			t.Error(told(c.v), c.commit, c.term, n)
		}
	}
	for _, v := range wrongViews() {
		for _, commit := range []int{lowest, -1, 0, 1, 5, highest} {
			for term := range 3 {
				if n := progress.Commit(v, []int{1, 2, 3}, []int{highest, highest, highest}, commit, term); n != commit {
					t.Error(told(v), commit, term, n)
				}
			}
		}
	}
}

// reached: how many of the servers match n, at least.
func reached(servers, match []int, n int) int {
	count := 0
	for i := range servers {
		if i < len(match) && match[i] >= n || i >= len(match) && n <= 0 {
			count++
		}
	}
	return count
}

// greatest: by P1304's words, looking for a server count of more than half by counting.
func greatest(v entries.View, servers, match []int, commit, term int) int {
	best := commit
	for _, x := range v.L {
		if x.Index > commit && x.Term == term && 2*reached(servers, match, x.Index) > len(servers) {
			best = x.Index
		}
	}
	return best
}

// lists: all lists of n numbers from 0 to most.
func lists(n, most int) [][]int {
	if n == 0 {
		return [][]int{nil}
	}
	var all [][]int
	for _, l := range lists(n-1, most) {
		for x := 0; x <= most; x++ {
			all = append(all, append(append([]int{}, l...), x))
		}
	}
	return all
}

// P1304, P1305, P1306: all small logs by all that up to four servers match, each commit and each term.
func TestCommitOfAllSmall(t *testing.T) {
	for _, base := range []int{0, 1} {
		for _, terms := range rises(1, 3, 3) {
			v := view(base, min(base, 1), terms...)
			for n := range 5 {
				servers := []int{2, 3, 5, 7}[:n]
				for _, match := range lists(n, 4) {
					wantCommits(t, v, servers, match)
				}
			}
		}
	}
}

func wantCommits(t *testing.T, v entries.View, servers, match []int) {
	t.Helper()
	for commit := -1; commit <= 4; commit++ {
		for term := range 5 {
			got := progress.Commit(v, servers, match, commit, term)
			if want := greatest(v, servers, match, commit, term); got != want {
				t.Fatalf("Commit(%v, %v, %v, %d, %d) is %d, not %d", told(v), servers, match, commit, term, got, want)
			}
			if got < commit || got > commit && (2*reached(servers, match, got) <= len(servers) || v.L[got-v.Base-1].Term != term) {
				t.Fatalf("Commit(%v, %v, %v, %d, %d) is %d", told(v), servers, match, commit, term, got)
			}
		}
	}
}

// P1304: a term that others come behind is found below them, in a log of MaxLog.
func TestCommitInLongLog(t *testing.T) {
	terms := make([]int, api.MaxLog)
	for i := range terms {
		terms[i] = 1 + i/1000
	}
	v := view(9, 1, terms...)
	match := []int{9 + 3500, 9 + 4096, 0}
	for term, want := range map[int]int{0: 20, 1: 9 + 1000, 2: 9 + 2000, 3: 9 + 3000, 4: 9 + 3500, 5: 20, 6: 20} {
		if n := progress.Commit(v, []int{1, 2, 3}, match, 20, term); n != want {
			t.Error(term, n)
		}
	}
}
