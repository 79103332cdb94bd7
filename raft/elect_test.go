package raft_test

import (
	"testing"

	"hustings/api"
	"hustings/message"
	"hustings/raft"
)

// P1503, P1505: one server alone leads at its timer's limit, in the term 1, and its first entry is committed.
func TestAlone(t *testing.T) {
	r := made(t, usual, start(4, 0, []int{4}), 2)
	tick(t, r, 6)
	wantOut(t, r, raft.Work{For: -1})
	wantLooks(t, r, raft.Follows, 0, -1, 0)
	tick(t, r, 1)
	wantLooks(t, r, raft.Leads, 1, 4, 1)
	wantOut(t, r, raft.Work{Term: 1, For: 4, Ops: []raft.Op{added(none(1, 1))}, Commit: 1})
	wantOut(t, r, raft.Work{Term: 1, For: 4, Commit: 1})
	tick(t, r, 100)
	wantOut(t, r, raft.Work{Term: 1, For: 4, Commit: 1})
}

// P1503: at its limit it asks all others whether they would vote for it; its own term and vote stay.
func TestTries(t *testing.T) {
	r := made(t, usual, raft.Start{ID: 2, Term: 7, For: 9, Servers: []int{0, 2, 9}, View: start(0, 0, nil, nothings(0, 3, 6)...).View}, 0)
	tick(t, r, 4)
	if e := r.Tick(3); e != api.OK {
		t.Fatal(e)
	}
	wantLooks(t, r, raft.Tries, 7, -1, 0)
	tried := raft.Work{Term: 7, For: 9, Messages: []message.Message{asks(2, 0, 8, 2, 6, 1), asks(2, 9, 8, 2, 6, 1)}}
	wantOut(t, r, tried)
	// The timer was reset by the draw of that Tick: its limit is 8 now, and 5 from then on.
	for _, limit := range []int{8, 5, 5} {
		tick(t, r, limit-1)
		wantOut(t, r, raft.Work{Term: 7, For: 9})
		tick(t, r, 1)
		wantOut(t, r, tried)
	}
}

// P1503: of a log behind a Snapshot the base is the last entry, where there is no other.
func TestTriesByItsBase(t *testing.T) {
	r := made(t, usual, above(start(1, 6, nil), snap5()), 0)
	tick(t, r, 5)
	wantSent(t, r, asks(1, 0, 7, 5, 2, 1), asks(1, 2, 7, 5, 2, 1))
}

// P1503: with its own vote and those of more than half, on trial, it stands; in earnest, it leads.
func TestElection(t *testing.T) {
	r := made(t, usual, start(0, 0, []int{0, 1, 2, 3, 4}), 0)
	tick(t, r, 5)
	r.Out()
	step(t, r, voted(3, 0, 1, 1, true))
	wantLooks(t, r, raft.Tries, 0, -1, 0)
	wantOut(t, r, raft.Work{For: -1})
	step(t, r, voted(1, 0, 1, 1, true))
	wantLooks(t, r, raft.Stands, 1, -1, 0)
	wantOut(t, r, raft.Work{Term: 1, For: 0, Messages: []message.Message{asks(0, 1, 1, 0, 0, 0), asks(0, 2, 1, 0, 0, 0), asks(0, 3, 1, 0, 0, 0), asks(0, 4, 1, 0, 0, 0)}})
	step(t, r, voted(4, 0, 1, 0, true))
	wantLooks(t, r, raft.Stands, 1, -1, 0)
	wantOut(t, r, raft.Work{Term: 1, For: 0})
	step(t, r, voted(2, 0, 1, 0, true))
	wantLooks(t, r, raft.Leads, 1, 0, 0)
	x := none(1, 1)
	wantOut(t, r, raft.Work{Term: 1, For: 0, Ops: []raft.Op{added(x)}, Messages: []message.Message{
		appends(0, 1, 1, 0, 0, 0, 1, x), appends(0, 2, 1, 0, 0, 0, 1, x), appends(0, 3, 1, 0, 0, 0, 1, x), appends(0, 4, 1, 0, 0, 0, 1, x),
	}})
}

// P1504: which votes count, and which do not.
func TestVotesThatDoNotCount(t *testing.T) {
	servers := []int{0, 1, 2}
	for what, m := range map[string]message.Message{
		"no":             voted(1, 0, 4, 1, false),
		"an elder term":  voted(1, 0, 4, 1, true),
		"an older term":  voted(1, 0, 3, 1, true),
		"a later term":   voted(1, 0, 6, 1, true),
		"in earnest":     voted(1, 0, 4, 0, true),
		"another C":      voted(1, 0, 4, 2, true),
		"from no server": voted(9, 0, 5, 1, true),
	} {
		r := made(t, usual, start(0, 4, servers), 0)
		tick(t, r, 5)
		r.Out()
		step(t, r, m, m)
		if r.Role() != raft.Tries || r.Term() != 4 {
			t.Errorf("on trial, %s: role %d, term %d", what, r.Role(), r.Term())
		}
		wantOut(t, r, raft.Work{Term: 4, For: -1})
	}
	for what, m := range map[string]message.Message{
		"no":             voted(1, 0, 5, 0, false),
		"an elder term":  voted(1, 0, 4, 0, true),
		"on trial":       voted(1, 0, 5, 1, true),
		"on trial again": voted(1, 0, 6, 1, true),
		"another C":      voted(1, 0, 5, 2, true),
		"from no server": voted(9, 0, 5, 0, true),
	} {
		r := made(t, usual, start(0, 4, servers), 0)
		tick(t, r, 5)
		step(t, r, voted(1, 0, 5, 1, true))
		r.Out()
		step(t, r, m, m)
		if r.Role() != raft.Stands || r.Term() != 5 {
			t.Errorf("in earnest, %s: role %d, term %d", what, r.Role(), r.Term())
		}
		wantOut(t, r, raft.Work{Term: 5, For: 0})
	}
	for _, m := range []message.Message{voted(1, 0, 5, 1, true), voted(1, 0, 4, 0, true), voted(2, 0, 4, 1, true)} {
		r := made(t, usual, start(0, 4, servers), 0)
		step(t, r, m)
		if looks(r) != looks(made(t, usual, start(0, 4, servers), 0)) {
			t.Errorf("a vote that nobody asked for: %s", looks(r))
		}
		wantOut(t, r, raft.Work{Term: 4, For: -1})
	}
}

// P1504: each one counts once, and only for what it was asked.
func TestVotesCountOnce(t *testing.T) {
	r := made(t, usual, start(0, 0, []int{0, 1, 2, 3, 4}), 0)
	tick(t, r, 5)
	yes := voted(1, 0, 1, 1, true)
	step(t, r, yes, yes, yes)
	wantLooks(t, r, raft.Tries, 0, -1, 0)
	// A new trial forgets them.
	tick(t, r, 5)
	step(t, r, voted(2, 0, 1, 1, true))
	wantLooks(t, r, raft.Tries, 0, -1, 0)
	step(t, r, yes)
	wantLooks(t, r, raft.Stands, 1, -1, 0)
	// So does standing.
	step(t, r, voted(3, 0, 1, 0, true))
	wantLooks(t, r, raft.Stands, 1, -1, 0)
	// And it tries anew, in the same term, where it has not won.
	tick(t, r, 5)
	wantLooks(t, r, raft.Tries, 1, -1, 0)
	step(t, r, voted(3, 0, 1, 0, true), voted(4, 0, 1, 0, true), voted(1, 0, 1, 0, true))
	wantLooks(t, r, raft.Tries, 1, -1, 0)
	step(t, r, voted(3, 0, 2, 1, true), voted(4, 0, 2, 1, true))
	wantLooks(t, r, raft.Stands, 2, -1, 0)
}

// P1503: who stands by another one's vote has its timer reset by the draw of that.
func TestStandsResets(t *testing.T) {
	r := made(t, usual, start(0, 0, []int{0, 1, 2}), 0)
	tick(t, r, 5)
	tick(t, r, 4)
	r.Step(voted(1, 0, 1, 1, true), 4)
	r.Out()
	tick(t, r, 8)
	wantLooks(t, r, raft.Stands, 1, -1, 0)
	wantSent(t, r)
	tick(t, r, 1)
	wantLooks(t, r, raft.Tries, 1, -1, 0)
	wantSent(t, r, asks(0, 1, 2, 0, 0, 1), asks(0, 2, 2, 0, 0, 1))
}

// P1503: who is no server does not try; who is removed, but not by what is committed, does.
func TestWhoTries(t *testing.T) {
	for _, servers := range [][]int{nil, {1}, {1, 2}} {
		r := made(t, usual, start(0, 3, servers), 0)
		tick(t, r, 100)
		wantLooks(t, r, raft.Follows, 3, -1, 0)
		wantOut(t, r, raft.Work{Term: 3, For: -1})
	}
	removed := func() *raft.Raft {
		return made(t, usual, start(0, 3, []int{0, 1, 2}, none(3, 1), listed(3, 2, 1, 2)), 0)
	}
	r := removed()
	tick(t, r, 5)
	wantSent(t, r, asks(0, 1, 4, 2, 3, 1), asks(0, 2, 4, 2, 3, 1))
	// Its own vote does not count there: it takes both of the others.
	step(t, r, voted(1, 0, 4, 1, true))
	wantLooks(t, r, raft.Tries, 3, -1, 0)
	step(t, r, voted(2, 0, 4, 1, true))
	wantLooks(t, r, raft.Stands, 4, -1, 0)
	r = removed()
	step(t, r, appends(1, 0, 3, 2, 3, 2, 1))
	r.Out()
	tick(t, r, 100)
	wantLooks(t, r, raft.Follows, 3, -1, 2)
	wantSent(t, r)
	// Who is a server by an entry that is not committed tries, too.
	r = made(t, usual, start(0, 3, []int{1}, listed(3, 1, 0, 1)), 0)
	tick(t, r, 5)
	wantSent(t, r, asks(0, 1, 4, 1, 3, 1))
}

// P1516: a server whose timer reached its limit takes nobody for the leader any more, and votes for another one; be it a server or not.
func TestLimitEndsLeader(t *testing.T) {
	for _, servers := range [][]int{{0, 1, 2}, nil} {
		r := made(t, usual, start(0, 1, servers), 0)
		step(t, r, appends(1, 0, 1, 0, 0, 0, 1))
		wantLooks(t, r, raft.Follows, 1, 1, 0)
		tick(t, r, 4)
		r.Out()
		step(t, r, asks(2, 0, 2, 0, 0, 1))
		wantSent(t, r)
		tick(t, r, 1)
		if r.Leader() != -1 {
			t.Error(r.Leader())
		}
		r.Out()
		step(t, r, asks(2, 0, 2, 0, 0, 1))
		wantSent(t, r, voted(0, 2, 2, 1, true))
	}
}

// P1503: a term does not go above the last one: nothing comes of it, and no message that may not be.
func TestLastTerm(t *testing.T) {
	r := made(t, usual, start(0, maxTerm-1, []int{0}), 0)
	tick(t, r, 50)
	if r.Role() == raft.Stands || r.Role() == raft.Leads || r.Term() != maxTerm-1 {
		t.Error(looks(r))
	}
	wantOut(t, r, raft.Work{Term: maxTerm - 1, For: -1})
	r = made(t, usual, start(0, maxTerm-1, []int{0, 1}), 0)
	tick(t, r, 50)
	wantOut(t, r, raft.Work{Term: maxTerm - 1, For: -1})
	// The last term but one is followed by the last.
	r = made(t, usual, start(0, maxTerm-2, []int{0}), 0)
	tick(t, r, 5)
	wantLooks(t, r, raft.Leads, maxTerm-1, 0, 1)
	r = made(t, usual, start(0, maxTerm-2, []int{0, 1}), 0)
	tick(t, r, 5)
	wantSent(t, r, asks(0, 1, maxTerm-1, 0, 0, 1))
}

// askCase: a server, and what it answers when it is asked.
type askCase struct {
	what      string
	term, For int
	ask       message.Message
	answer    message.Message // none, if its Kind is 0
	next, to  int             // its term and vote then
}

// P1504: on trial nothing changes; the answer bears the term that was asked for, or its own.
func TestAskedOnTrial(t *testing.T) {
	for _, c := range []askCase{
		{"a new term", 3, 2, asks(1, 0, 4, 2, 3, 1), voted(0, 1, 4, 1, true), 3, 2},
		{"a far term", 3, 2, asks(1, 0, 90, 2, 3, 1), voted(0, 1, 90, 1, true), 3, 2},
		{"its term, voted for it", 3, 1, asks(1, 0, 3, 2, 3, 1), voted(0, 1, 3, 1, true), 3, 1},
		{"its term, voted for nobody", 3, -1, asks(1, 0, 3, 2, 3, 1), voted(0, 1, 3, 1, true), 3, -1},
		{"its term, voted for another one", 3, 2, asks(1, 0, 3, 2, 3, 1), voted(0, 1, 3, 1, false), 3, 2},
		{"an elder term", 3, -1, asks(1, 0, 2, 9, 3, 1), voted(0, 1, 3, 1, false), 3, -1},
		{"a shorter log", 3, -1, asks(1, 0, 4, 1, 3, 1), voted(0, 1, 3, 1, false), 3, -1},
		{"an elder last entry", 3, -1, asks(1, 0, 4, 9, 2, 1), voted(0, 1, 3, 1, false), 3, -1},
		{"a newer last entry", 3, -1, asks(1, 0, 5, 1, 4, 1), voted(0, 1, 5, 1, true), 3, -1},
		{"from no server", 3, -1, asks(9, 0, 4, 2, 3, 1), voted(0, 9, 4, 1, true), 3, -1},
		{"another C", 3, -1, asks(1, 0, 4, 2, 3, 2), message.Message{}, 3, -1},
		{"the highest C", 3, -1, asks(1, 0, 4, 2, 3, 1<<40), message.Message{}, 3, -1},
	} {
		checkAsk(t, c, false)
	}
}

// P1504: in the term 0 the log is empty, so that all others' are as new, and the answer is yes.
func TestAskedInTermZero(t *testing.T) {
	r := made(t, usual, raft.Start{ID: 0, For: 3, Servers: []int{0, 1}}, 0)
	step(t, r, asks(1, 0, 1, 0, 0, 1))
	wantOut(t, r, raft.Work{For: 3, Messages: []message.Message{voted(0, 1, 1, 1, true)}})
}

// P1504: in earnest its term and vote are the answer's, and the answer bears its term.
func TestAskedInEarnest(t *testing.T) {
	for _, c := range []askCase{
		{"a new term", 3, 2, asks(1, 0, 4, 2, 3, 0), voted(0, 1, 4, 0, true), 4, 1},
		{"a far term", 3, 2, asks(1, 0, 90, 3, 3, 0), voted(0, 1, 90, 0, true), 90, 1},
		{"its term, voted for it", 3, 1, asks(1, 0, 3, 2, 3, 0), voted(0, 1, 3, 0, true), 3, 1},
		{"its term, voted for nobody", 3, -1, asks(1, 0, 3, 2, 3, 0), voted(0, 1, 3, 0, true), 3, 1},
		{"its term, voted for another one", 3, 2, asks(1, 0, 3, 2, 3, 0), voted(0, 1, 3, 0, false), 3, 2},
		{"an elder term", 3, 2, asks(1, 0, 2, 9, 3, 0), voted(0, 1, 3, 0, false), 3, 2},
		{"a shorter log", 3, 2, asks(1, 0, 4, 1, 3, 0), voted(0, 1, 4, 0, false), 4, -1},
		{"a shorter log, its term", 3, -1, asks(1, 0, 3, 1, 3, 0), voted(0, 1, 3, 0, false), 3, -1},
		{"an elder last entry", 3, 1, asks(1, 0, 4, 9, 2, 0), voted(0, 1, 4, 0, false), 4, -1},
		{"a newer last entry", 3, 2, asks(1, 0, 5, 1, 4, 0), voted(0, 1, 5, 0, true), 5, 1},
		{"from no server", 3, -1, asks(9, 0, 4, 2, 3, 0), voted(0, 9, 4, 0, true), 4, 9},
	} {
		checkAsk(t, c, c.next > c.term || c.answer.Yes)
	}
}

// checkAsk: also whether the timer was reset, by the draw 3: its limit is 8 then, and 5 else.
func checkAsk(t *testing.T, c askCase, reset bool) {
	t.Helper()
	s := start(0, c.term, []int{0, 1, 2}, nothings(0, 1, 3)...)
	s.For = c.For
	r := made(t, usual, s, 0)
	tick(t, r, 4)
	if e := r.Step(c.ask, 3); e != api.OK {
		t.Fatal(c.what, e)
	}
	want := raft.Work{Term: c.next, For: c.to}
	if c.answer.Kind != 0 {
		want.Messages = append(want.Messages, c.answer)
	}
	if w := r.Out(); told(w) != told(want) {
		t.Errorf("%s:\n%s\nnot\n%s", c.what, told(w), told(want))
	}
	if r.Leader() != -1 || r.Role() != raft.Follows {
		t.Errorf("%s: %s", c.what, looks(r))
	}
	left := 1
	if reset {
		left = 8
	}
	tick(t, r, left-1)
	if r.Role() != raft.Follows {
		t.Errorf("%s: it tried too early", c.what)
	}
	tick(t, r, 1)
	if r.Role() != raft.Tries {
		t.Errorf("%s: it did not try at its limit", c.what)
	}
}

// P1504, P1515: who heard of a leader a short time ago is silent to a higher term, but not to its own, or an elder one.
func TestFresh(t *testing.T) {
	for passed := range 9 {
		for _, c := range []int{0, 1} {
			r := made(t, usual, start(0, 3, []int{0, 1, 2}), 0)
			r.Step(appends(2, 0, 3, 0, 0, 0, 1), 4)
			tick(t, r, passed)
			r.Out()
			step(t, r, asks(1, 0, 4, 0, 0, c))
			if w := r.Out(); passed < 5 != (len(w.Messages) == 0) {
				t.Errorf("%d ticks behind its word, C %d:\n%s", passed, c, told(w))
			} else if passed < 5 && (r.Term() != 3 || r.Leader() != 2) {
				t.Error(looks(r))
			}
		}
	}
	r := made(t, usual, start(0, 3, []int{0, 1, 2}), 0)
	step(t, r, appends(2, 0, 3, 0, 0, 0, 1))
	r.Out()
	step(t, r, asks(1, 0, 3, 0, 0, 0), asks(1, 0, 2, 0, 0, 1), asks(1, 0, 2, 0, 0, 0))
	wantOut(t, r, raft.Work{Term: 3, For: 1, Messages: []message.Message{voted(0, 1, 3, 0, true), voted(0, 1, 3, 1, false), voted(0, 1, 3, 0, false)}})
	wantLooks(t, r, raft.Follows, 3, 2, 0)
}

// P1504: a reset timer alone makes nobody Fresh: there must be a leader.
func TestFreshNeedsLeader(t *testing.T) {
	r := made(t, usual, start(0, 3, []int{0, 1, 2}), 0)
	step(t, r, asks(1, 0, 4, 0, 0, 0), asks(2, 0, 5, 0, 0, 0))
	wantOut(t, r, raft.Work{Term: 5, For: 2, Messages: []message.Message{voted(0, 1, 4, 0, true), voted(0, 2, 5, 0, true)}})
}

// P1504, P1515: a leader is silent to a higher term however long it leads, and says no in its own.
func TestLeaderIsFresh(t *testing.T) {
	r := leading(t, usual, start(0, 3, []int{0, 1, 2}))
	tick(t, r, 100)
	r.Out()
	step(t, r, asks(1, 0, 5, 9, 4, 0), asks(1, 0, 5, 9, 4, 1), asks(1, 0, 4, 9, 4, 0), asks(1, 0, 4, 9, 4, 1), asks(1, 0, 3, 9, 4, 0))
	wantOut(t, r, raft.Work{Term: 4, For: 0, Messages: []message.Message{voted(0, 1, 4, 0, false), voted(0, 1, 4, 1, false), voted(0, 1, 4, 0, false)}})
	wantLooks(t, r, raft.Leads, 4, 0, 0)
}

// P1504: who tries, or stands, is asked as any other one: a new term ends it, its own does not.
func TestCandidateIsAsked(t *testing.T) {
	r := made(t, usual, start(0, 3, []int{0, 1, 2}), 0)
	tick(t, r, 5)
	r.Out()
	step(t, r, asks(1, 0, 4, 0, 0, 1))
	wantOut(t, r, raft.Work{Term: 3, For: -1, Messages: []message.Message{voted(0, 1, 4, 1, true)}})
	wantLooks(t, r, raft.Tries, 3, -1, 0)
	step(t, r, asks(1, 0, 3, 0, 0, 0))
	wantOut(t, r, raft.Work{Term: 3, For: 1, Messages: []message.Message{voted(0, 1, 3, 0, true)}})
	wantLooks(t, r, raft.Tries, 3, -1, 0)
	step(t, r, voted(2, 0, 4, 1, true))
	wantLooks(t, r, raft.Stands, 4, -1, 0)
	r.Out()
	step(t, r, asks(1, 0, 4, 0, 0, 0))
	wantOut(t, r, raft.Work{Term: 4, For: 0, Messages: []message.Message{voted(0, 1, 4, 0, false)}})
	wantLooks(t, r, raft.Stands, 4, -1, 0)
	step(t, r, asks(1, 0, 5, 0, 0, 0))
	wantOut(t, r, raft.Work{Term: 5, For: 1, Messages: []message.Message{voted(0, 1, 5, 0, true)}})
	wantLooks(t, r, raft.Follows, 5, -1, 0)
}

// P1504: a vote of a higher term: it follows in it, whatever it was; but not by a yes on trial.
func TestVoteOfHigherTerm(t *testing.T) {
	for _, m := range []message.Message{voted(1, 0, 9, 0, false), voted(1, 0, 9, 1, false), voted(1, 0, 9, 0, true), voted(1, 0, 9, 7, true), voted(12, 0, 9, 0, false)} {
		follows := made(t, usual, start(0, 4, []int{0, 1, 2}), 0)
		tries := made(t, usual, start(0, 4, []int{0, 1, 2}), 0)
		tick(t, tries, 5)
		stands := made(t, usual, start(0, 4, []int{0, 1, 2}), 0)
		tick(t, stands, 5)
		step(t, stands, voted(1, 0, 5, 1, true))
		leads := leading(t, usual, start(0, 4, []int{0, 1, 2}))
		for _, r := range []*raft.Raft{follows, tries, stands, leads} {
			r.Out()
			if e := r.Step(m, 2); e != api.OK {
				t.Fatal(e)
			}
			wantLooks(t, r, raft.Follows, 9, -1, 0)
			wantOut(t, r, raft.Work{Term: 9, For: -1})
			tick(t, r, 6)
			wantLooks(t, r, raft.Follows, 9, -1, 0)
			tick(t, r, 1)
			wantLooks(t, r, raft.Tries, 9, -1, 0)
		}
	}
}

// P1505: peers begin at its last index, what is committed stays, and its own entry comes behind its log.
func TestToLead(t *testing.T) {
	r := made(t, usual, start(1, 6, []int{0, 1, 2}, nothings(0, 1, 6, 6)...), 0)
	step(t, r, appends(2, 1, 6, 3, 6, 1, 4))
	r.Out()
	elect(t, r)
	wantLooks(t, r, raft.Leads, 7, 1, 1)
	x := none(7, 4)
	w := r.Out()
	w.Messages = w.Messages[4:] // behind what it asked for
	want := raft.Work{Term: 7, For: 1, Commit: 1, Ops: []raft.Op{added(x)}, Messages: []message.Message{appends(1, 0, 7, 3, 6, 1, 1, x), appends(1, 2, 7, 3, 6, 1, 1, x)}}
	if told(w) != told(want) {
		t.Fatalf("%s\nnot\n%s", told(w), told(want))
	}
	wantLog(t, r, 0, 0, none(1, 1), none(6, 2), none(6, 3), x)
}

// P1505: where there is no room no entry comes, but it leads.
func TestToLeadWithoutRoom(t *testing.T) {
	r := leading(t, usual, start(0, 1, []int{0, 1}, nothings(0, many(4096, 1)...)...))
	if v := r.View(); len(v.L) != 4096 || v.L[4095].Term != 1 {
		t.Error(len(v.L))
	}
	wantLooks(t, r, raft.Leads, 2, 0, 0)
	tick(t, r, 2)
	wantSent(t, r, appends(0, 1, 2, 4096, 1, 0, 2))
	r = leading(t, usual, start(0, 1, []int{0, 1}, nothings(0, many(4095, 1)...)...))
	if v := r.View(); len(v.L) != 4096 || v.L[4095].Term != 2 {
		t.Error(len(v.L))
	}
}

// P1505, P1503: a round begins with its lead, and then every Beat ticks, from its lead on.
func TestRounds(t *testing.T) {
	for _, beat := range []int{1, 2, 3, 6} {
		r := leading(t, raft.Options{Least: 7, Beat: beat, Chunk: 1}, start(0, 0, []int{0, 1, 2}))
		round := 1
		for n := 1; n <= 20; n++ {
			tick(t, r, 1)
			if n%beat != 0 {
				wantSent(t, r)
				continue
			}
			round++
			x := none(1, 1)
			wantSent(t, r, appends(0, 1, 1, 0, 0, 0, round, x), appends(0, 2, 1, 0, 0, 0, round, x))
		}
	}
}

// P1503: what is sent between does not put off a round.
func TestRoundsGoOn(t *testing.T) {
	r := leading(t, usual, start(0, 0, []int{0, 1}))
	step(t, r, got(1, 0, 1, 1, 1, true))
	tick(t, r, 1)
	r.Propose(nil)
	r.Read(1)
	r.Out()
	tick(t, r, 1)
	wantSent(t, r, appends(0, 1, 1, 1, 1, 1, 3, command(1, 2, "")))
	wantLooks(t, r, raft.Leads, 1, 0, 1)
}

// A round's number goes on from lead to lead, and the count of ticks begins with a lead.
func TestRoundsOfNextLead(t *testing.T) {
	r := leading(t, usual, start(0, 0, []int{0, 1}))
	tick(t, r, 5)
	step(t, r, voted(1, 0, 4, 0, false))
	elect(t, r)
	r.Out()
	tick(t, r, 1)
	wantSent(t, r)
	tick(t, r, 1)
	wantSent(t, r, appends(0, 1, 5, 1, 1, 0, 5, none(5, 2)))
}
