package vote_test

import (
	"math/rand"
	"slices"
	"testing"

	"hustings/vote"
)

const (
	highest = 1<<63 - 1
	lowest  = -1 << 63
)

// edges: numbers at which a comparison by a difference, or one of the wrong sign, would go astray.
func edges() []int {
	return []int{lowest, lowest + 1, -2, -1, 0, 1, 2, 3, highest - 1, highest}
}

// P1002: the entry's term counts first, and the index only where the terms are the same.
func TestUpToDate(t *testing.T) {
	for _, c := range []struct {
		index, last, otherIndex, otherLast int
		want                               bool
	}{
		{5, 2, 5, 2, true},
		{6, 2, 5, 2, true},
		{4, 2, 5, 2, false},
		{1, 3, 9, 2, true},
		{9, 2, 1, 3, false},
		{0, 0, 0, 0, true},
		{0, 0, 1, 1, false},
		{lowest, highest, highest, lowest, true},
		{highest, lowest, lowest, highest, false},
		{highest, 0, lowest, 0, true},
		{lowest, 0, highest, 0, false},
	} {
		if got := vote.UpToDate(c.index, c.last, c.otherIndex, c.otherLast); got != c.want {
			t.Errorf("UpToDate(%d, %d, %d, %d): %t", c.index, c.last, c.otherIndex, c.otherLast, got)
		}
	}
}

// P1002: any two logs are in an order: of two that differ one alone is as new as the other.
func TestUpToDateIsAnOrder(t *testing.T) {
	for _, index := range edges() {
		for _, last := range edges() {
			for _, otherIndex := range edges() {
				for _, otherLast := range edges() {
					there := vote.UpToDate(index, last, otherIndex, otherLast)
					back := vote.UpToDate(otherIndex, otherLast, index, last)
					same := index == otherIndex && last == otherLast
					if (there && back) != same || !there && !back {
						t.Fatalf("%d/%d and %d/%d: %t, %t", index, last, otherIndex, otherLast, there, back)
					}
				}
			}
		}
	}
}

type answerRow struct {
	name        string
	me          vote.Me
	ask         vote.Ask
	next        vote.Me
	yes, silent bool
}

func wantAnswers(t *testing.T, rows []answerRow) {
	t.Helper()
	for _, c := range rows {
		next, yes, silent := vote.Answer(c.me, c.ask)
		if next != c.next || yes != c.yes || silent != c.silent {
			t.Errorf("%s: %v, yes %t, silent %t; want %v, %t, %t", c.name, next, yes, silent, c.next, c.yes, c.silent)
		}
	}
}

// P1003: who heard of a leader a short time ago is silent to a higher term, and to that alone.
func TestAnswerOfAFreshOne(t *testing.T) {
	fresh := vote.Me{Term: 3, For: -1, Index: 5, Last: 2, Fresh: true}
	voted := vote.Me{Term: 3, For: 1, Index: 5, Last: 2, Fresh: true}
	wantAnswers(t, []answerRow{
		{"a higher term", fresh, vote.Ask{Term: 4, From: 1, Index: 9, Last: 9}, fresh, false, true},
		{"a higher term, by whom it voted for", voted, vote.Ask{Term: 4, From: 1, Index: 9, Last: 9}, voted, false, true},
		{"a higher term, and an elder log", fresh, vote.Ask{Term: 4, From: 1}, fresh, false, true},
		{"the highest term", fresh, vote.Ask{Term: highest, From: 1, Index: 9, Last: 9}, fresh, false, true},
		{"its own term", fresh, vote.Ask{Term: 3, From: 1, Index: 5, Last: 2}, voted, true, false},
		{"its own term again", voted, vote.Ask{Term: 3, From: 1, Index: 5, Last: 2}, voted, true, false},
		{"its own term, by another", voted, vote.Ask{Term: 3, From: 2, Index: 5, Last: 2}, voted, false, false},
		{"a lower term", fresh, vote.Ask{Term: 2, From: 1, Index: 9, Last: 9}, fresh, false, false},
		{"the lowest term", fresh, vote.Ask{Term: lowest, From: 1, Index: 9, Last: 9}, fresh, false, false},
	})
}

// P1003: terms below, the same and above, votes that are free and given, logs that are newer and elder.
func TestAnswerOfOneThatIsNotFresh(t *testing.T) {
	free := vote.Me{Term: 3, For: -1, Index: 5, Last: 2}
	voted := vote.Me{Term: 3, For: 1, Index: 5, Last: 2}
	wantAnswers(t, []answerRow{
		{"a lower term", free, vote.Ask{Term: 2, From: 1, Index: 9, Last: 9}, free, false, false},
		{"a lower term, by whom it voted for", voted, vote.Ask{Term: 2, From: 1, Index: 9, Last: 9}, voted, false, false},
		{"its own term, the same log", free, vote.Ask{Term: 3, From: 1, Index: 5, Last: 2}, voted, true, false},
		{"its own term, a shorter log", free, vote.Ask{Term: 3, From: 1, Index: 4, Last: 2}, free, false, false},
		{"its own term, a longer log of a lower term", free, vote.Ask{Term: 3, From: 1, Index: 9, Last: 1}, free, false, false},
		{"its own term, a shorter log of a higher term", free, vote.Ask{Term: 3, From: 1, Index: 1, Last: 3}, voted, true, false},
		{"its own term again", voted, vote.Ask{Term: 3, From: 1, Index: 5, Last: 2}, voted, true, false},
		{"its own term again, with an elder log", voted, vote.Ask{Term: 3, From: 1, Index: 4, Last: 2}, voted, false, false},
		{"its own term, by another", voted, vote.Ask{Term: 3, From: 2, Index: 9, Last: 9}, voted, false, false},
		{"a higher term", voted, vote.Ask{Term: 4, From: 2, Index: 5, Last: 2}, vote.Me{Term: 4, For: 2, Index: 5, Last: 2}, true, false},
		{"a higher term, by whom it voted for", voted, vote.Ask{Term: 4, From: 1, Index: 5, Last: 2}, vote.Me{Term: 4, For: 1, Index: 5, Last: 2}, true, false},
		{"a higher term, an elder log", voted, vote.Ask{Term: 4, From: 2, Index: 4, Last: 2}, vote.Me{Term: 4, For: -1, Index: 5, Last: 2}, false, false},
		{"from the lowest term to the highest", vote.Me{Term: lowest, For: 4}, vote.Ask{Term: highest, From: 7}, vote.Me{Term: highest, For: 7}, true, false},
		{"server 0 is not nobody", vote.Me{Term: 1, For: 0}, vote.Ask{Term: 1, From: 3}, vote.Me{Term: 1, For: 0}, false, false},
		{"a vote for server 0", vote.Me{Term: 1, For: -1}, vote.Ask{Term: 1, From: 0}, vote.Me{Term: 1, For: 0}, true, false},
	})
}

// P1001, P1003: numbers that no server has are as good as others.
func TestAnswerOfAnyNumbers(t *testing.T) {
	wantAnswers(t, []answerRow{
		{"all zero", vote.Me{}, vote.Ask{}, vote.Me{}, true, false},
		{"a vote for nobody stays free", vote.Me{Term: 1, For: -1}, vote.Ask{Term: 1, From: -1}, vote.Me{Term: 1, For: -1}, true, false},
		{"a vote for the lowest", vote.Me{Term: -5, For: -1, Index: lowest, Last: lowest}, vote.Ask{Term: -5, From: lowest, Index: lowest, Last: lowest}, vote.Me{Term: -5, For: lowest, Index: lowest, Last: lowest}, true, false},
		{"who voted for -2 has voted", vote.Me{Term: 1, For: -2}, vote.Ask{Term: 1, From: 3}, vote.Me{Term: 1, For: -2}, false, false},
		{"below 0 terms are in order, too", vote.Me{Term: -5, For: 2}, vote.Ask{Term: -4, From: 3}, vote.Me{Term: -4, For: 3}, true, false},
	})
}

func someAsk(r *rand.Rand) vote.Ask {
	return vote.Ask{Term: r.Intn(6), From: r.Intn(4), Index: r.Intn(4), Last: r.Intn(3)}
}

// P1005, P1007: whatever the order of asks, one is told yes in a term, terms never fall, and the log is left as it is.
func TestOneVoteATerm(t *testing.T) {
	r := rand.New(rand.NewSource(10))
	for range 3000 {
		m := vote.Me{For: -1, Index: r.Intn(3), Last: r.Intn(3)}
		told := map[int]int{}
		for range 40 {
			m.Fresh = r.Intn(4) == 0
			a := someAsk(r)
			next, yes, silent := vote.Answer(m, a)
			if next.Term < m.Term || next.Index != m.Index || next.Last != m.Last || next.Fresh != m.Fresh {
				t.Fatalf("%v to %v: %v", m, a, next)
			}
			if silent && (yes || next != m) {
				t.Fatalf("%v to %v: silent, and yes %t, %v", m, a, yes, next)
			}
			if yes && (next.Term != a.Term || next.For != a.From) {
				t.Fatalf("%v to %v: yes, and %v", m, a, next)
			}
			if who, ok := told[a.Term]; yes && ok && who != a.From {
				t.Fatalf("in term %d yes to %d and to %d", a.Term, who, a.From)
			}
			if yes {
				told[a.Term] = a.From
			}
			m = next
		}
	}
}

// P1004: each server counts once, on both sides, and strangers do not count.
func TestCountAndWon(t *testing.T) {
	for _, c := range []struct {
		servers, yes []int
		count        int
		won          bool
	}{
		{nil, nil, 0, false},
		{[]int{}, []int{}, 0, false},
		{nil, []int{1, 2}, 0, false},
		{[]int{1}, nil, 0, false},
		{[]int{1}, []int{1}, 1, true},
		{[]int{1, 2}, []int{1}, 1, false},
		{[]int{1, 2}, []int{2, 1}, 2, true},
		{[]int{1, 2, 3}, []int{1, 3}, 2, true},
		{[]int{1, 2, 3}, []int{3, 1, 9}, 2, true},
		{[]int{1, 2, 3}, []int{1, 1, 1}, 1, false},
		{[]int{1, 2, 3}, []int{1, 8, 9}, 1, false},
		{[]int{1, 2, 3, 4}, []int{1, 2}, 2, false},
		{[]int{1, 2, 3, 4}, []int{4, 1, 2}, 3, true},
		{[]int{1, 1, 2}, []int{1}, 1, false},
		{[]int{1, 1, 1}, []int{1}, 1, true},
		{[]int{1, 2, 3, 3, 3, 3}, []int{1, 2}, 2, true},
		{[]int{3, 3, 3, 1, 2}, []int{3, 3, 3}, 1, false},
		{[]int{0, -1, lowest, highest, -7}, []int{highest, lowest, -1}, 3, true},
		{[]int{0, -1, lowest, highest, -7}, []int{highest, lowest, 1, 7}, 2, false},
	} {
		if got := vote.Count(c.servers, c.yes); got != c.count {
			t.Errorf("Count(%v, %v): %d", c.servers, c.yes, got)
		}
		if got := vote.Won(c.servers, c.yes); got != c.won {
			t.Errorf("Won(%v, %v): %t", c.servers, c.yes, got)
		}
	}
}

// P1004: long lists, of far more servers than there may be.
func TestCountOfLongLists(t *testing.T) {
	servers, yes := []int{}, []int{}
	for i := range 200000 {
		servers = append(servers, i%50000)
		yes = append(yes, -i, i/8)
	}
	if got := vote.Count(servers, yes); got != 25000 {
		t.Errorf("Count: %d", got)
	}
	if vote.Won(servers, yes) {
		t.Error("half of them won")
	}
	if !vote.Won(servers, append(yes, 25000)) {
		t.Error("more than half of them did not win")
	}
}

// P1001: what is handed in stays as it was, and the room behind it.
func TestCountChangesNothing(t *testing.T) {
	servers, yes := []int{3, 1, 2, 1, 77, 78}, []int{2, 3, 2, 88, 89}
	vote.Count(servers[:4], yes[:3])
	vote.Won(servers[:4], yes[:3])
	if !slices.Equal(servers, []int{3, 1, 2, 1, 77, 78}) || !slices.Equal(yes, []int{2, 3, 2, 88, 89}) {
		t.Errorf("%v, %v", servers, yes)
	}
}

func chosen(servers []int, bits int) []int {
	var list []int
	for i, s := range servers {
		if bits>>i&1 == 1 {
			list = append(list, s)
		}
	}
	return list
}

// P1006: any two that won by the same servers have one who said yes to both; and half of them never win.
func TestTwoThatWonMeet(t *testing.T) {
	servers := []int{4, 0, 15, 7, 2, 9, 3}
	for n := range len(servers) + 1 {
		some := servers[:n]
		for a := range 1 << n {
			mine := chosen(some, a)
			if vote.Won(some, mine) != (2*len(mine) > n) {
				t.Fatalf("Won(%v, %v)", some, mine)
			}
			for b := range 1 << n {
				if a&b == 0 && vote.Won(some, mine) && vote.Won(some, chosen(some, b)) {
					t.Fatalf("of %v both %v and %v won", some, mine, chosen(some, b))
				}
			}
		}
	}
}
