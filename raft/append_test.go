package raft_test

import (
	"testing"

	"hustings/api"
	"hustings/message"
	"hustings/raft"
)

// follower: of the term 3, with entries of the terms 1 1 3, of which so many are committed; its timer has 4 ticks of 5.
func follower(t *testing.T, commit int) *raft.Raft {
	t.Helper()
	r := made(t, usual, start(0, 3, []int{0, 1, 2}, nothings(0, 1, 1, 3)...), 0)
	step(t, r, appends(2, 0, 3, 3, 3, commit, 1))
	tick(t, r, 4)
	r.Out()
	return r
}

// appendCase: what a follower makes of an Append.
type appendCase struct {
	what   string
	m      message.Message
	ops    []raft.Op
	answer message.Message // none, if its Kind is 0
	term   int
	commit int
	log    []api.Entry
}

// P1507: to a follower of the term 3 whose log is of the terms 1 1 3, of which 1 is committed.
func TestAppend(t *testing.T) {
	was := nothings(0, 1, 1, 3)
	for _, c := range []appendCase{
		{"nothing new", appends(1, 0, 3, 3, 3, 0, 7), nil, got(0, 1, 3, 3, 7, true), 3, 1, was},
		{"the same again", appends(1, 0, 3, 0, 0, 0, 7, was...), nil, got(0, 1, 3, 3, 7, true), 3, 1, was},
		{"some of the same", appends(1, 0, 3, 1, 1, 0, 7, none(1, 2)), nil, got(0, 1, 3, 2, 7, true), 3, 1, was},
		{"one more", appends(1, 0, 3, 3, 3, 0, 8, none(3, 4)), []raft.Op{added(none(3, 4))}, got(0, 1, 3, 4, 8, true), 3, 1, nothings(0, 1, 1, 3, 3)},
		{"of a new term", appends(1, 0, 5, 3, 3, 0, 8, none(4, 4), command(5, 5, "x")), []raft.Op{added(none(4, 4), command(5, 5, "x"))}, got(0, 1, 5, 5, 8, true), 5, 1, append(nothings(0, 1, 1, 3, 4), command(5, 5, "x"))},
		{"old and new", appends(1, 0, 3, 1, 1, 0, 1<<40, none(1, 2), none(3, 3), none(3, 4)), []raft.Op{added(none(3, 4))}, got(0, 1, 3, 4, 1<<40, true), 3, 1, nothings(0, 1, 1, 3, 3)},
		{"others", appends(1, 0, 4, 2, 1, 0, 8, none(4, 3)), []raft.Op{{Cut: 3, Add: nothings(2, 4)}}, got(0, 1, 4, 3, 8, true), 4, 1, nothings(0, 1, 1, 4)},
		{"others from 2 on", appends(1, 0, 4, 1, 1, 0, 8, none(2, 2)), []raft.Op{{Cut: 2, Add: nothings(1, 2)}}, got(0, 1, 4, 2, 8, true), 4, 1, nothings(0, 1, 2)},
		{"others from 1 on", appends(1, 0, 4, 0, 0, 4, 8, none(2, 1)), nil, message.Message{}, 4, 1, was},
		{"behind its end", appends(1, 0, 3, 4, 3, 9, 7, none(3, 5)), nil, got(0, 1, 3, 4, 7, false), 3, 1, was},
		{"far behind it", appends(1, 0, 3, 1<<40, 3, 9, 7), nil, got(0, 1, 3, 4, 7, false), 3, 1, was},
		{"another term there", appends(1, 0, 4, 3, 4, 9, 7), nil, got(0, 1, 4, 3, 7, false), 4, 1, was},
		{"another term at 2", appends(1, 0, 4, 2, 2, 9, 7), nil, got(0, 1, 4, 1, 7, false), 4, 1, was},
		{"a gap", appends(1, 0, 3, 3, 3, 9, 7, none(3, 5)), nil, got(0, 1, 3, 0, 7, false), 3, 1, was},
		{"a falling term", appends(1, 0, 3, 3, 3, 9, 7, none(2, 4)), nil, got(0, 1, 3, 0, 7, false), 3, 1, was},
		{"committed, up to C", appends(1, 0, 3, 3, 3, 2, 7), nil, got(0, 1, 3, 3, 7, true), 3, 2, was},
		{"committed, up to Match", appends(1, 0, 3, 0, 0, 1<<40, 7, none(1, 1), none(1, 2)), nil, got(0, 1, 3, 2, 7, true), 3, 2, was},
		{"committed, new ones", appends(1, 0, 3, 3, 3, 4, 7, none(3, 4), none(3, 5)), []raft.Op{added(nothings(3, 3, 3)...)}, got(0, 1, 3, 5, 7, true), 3, 4, nothings(0, 1, 1, 3, 3, 3)},
		{"committed less", appends(1, 0, 3, 3, 3, 0, 7), nil, got(0, 1, 3, 3, 7, true), 3, 1, was},
	} {
		checkAppend(t, c)
	}
}

// checkAppend: From leads then, and the timer is reset, by the draw 3: its limit is 8.
func checkAppend(t *testing.T, c appendCase) {
	t.Helper()
	r := follower(t, 1)
	if e := r.Step(c.m, 3); e != api.OK {
		t.Fatal(c.what, e)
	}
	want := raft.Work{Term: c.term, For: -1, Ops: c.ops, Commit: c.commit}
	if c.answer.Kind != 0 {
		want.Messages = append(want.Messages, c.answer)
	}
	if w := r.Out(); told(w) != told(want) {
		t.Errorf("%s:\n%s\nnot\n%s", c.what, told(w), told(want))
	}
	if v := r.View(); row(v.L) != row(c.log) || v.Base != 0 {
		t.Errorf("%s: [%s], not [%s]", c.what, row(v.L), row(c.log))
	}
	if r.Leader() != c.m.From || r.Role() != raft.Follows || r.Term() != c.term || r.Commit() != c.commit {
		t.Errorf("%s: %s", c.what, looks(r))
	}
	tick(t, r, 7)
	if r.Role() != raft.Follows {
		t.Errorf("%s: the timer was not reset", c.what)
	}
	tick(t, r, 1)
	if r.Role() != raft.Tries {
		t.Errorf("%s: the timer was not reset by the draw", c.what)
	}
}

// P1507: B, or an entry, of a higher term than the Append's: nothing at all.
func TestAppendOfNoTerm(t *testing.T) {
	for _, m := range []message.Message{
		appends(1, 0, 4, 3, 5, 3, 7),
		appends(1, 0, 4, 3, 3, 3, 7, none(5, 4)),
		appends(1, 0, 4, 3, 3, 3, 7, none(4, 4), none(5, 5)),
		appends(1, 0, 3, 3, 4, 3, 7),
		appends(1, 0, 2, 3, 3, 3, 7),
		appends(1, 0, 2, 1, 1, 3, 7, none(3, 2)),
		appends(1, 0, 1, 3, 1<<40, 3, 7),
	} {
		r := follower(t, 1)
		before := looks(r)
		step(t, r, m)
		if looks(r) != before {
			t.Errorf("%s: %s\nwas\n%s", letter(m), looks(r), before)
		}
		wantOut(t, r, raft.Work{Term: 3, For: -1, Commit: 1})
		tick(t, r, 1)
		wantLooks(t, r, raft.Tries, 3, -1, 1)
	}
}

// P1507: of an elder term: no, and nothing else.
func TestAppendOfElderTerm(t *testing.T) {
	r := follower(t, 1)
	step(t, r, appends(1, 0, 2, 3, 2, 3, 7, none(2, 4)), appends(1, 0, 1, 0, 0, 3, 8))
	wantOut(t, r, raft.Work{Term: 3, For: -1, Commit: 1, Messages: []message.Message{got(0, 1, 3, 0, 7, false), got(0, 1, 3, 0, 8, false)}})
	wantLooks(t, r, raft.Follows, 3, 2, 1)
	wantLog(t, r, 0, 0, nothings(0, 1, 1, 3)...)
	tick(t, r, 1)
	wantLooks(t, r, raft.Tries, 3, -1, 1)
}

// P1507: who tries, or stands, or leads, follows; its vote stays in its own term.
func TestAppendEndsOthers(t *testing.T) {
	for _, term := range []int{5, 6} {
		tries := made(t, usual, start(0, 5, []int{0, 1, 2}), 0)
		tick(t, tries, 5)
		stands := made(t, usual, start(0, 4, []int{0, 1, 2}), 0)
		tick(t, stands, 5)
		step(t, stands, voted(1, 0, 5, 1, true))
		leads := leading(t, usual, start(0, 4, []int{0, 1, 2}))
		for i, r := range []*raft.Raft{tries, stands, leads} {
			r.Out()
			step(t, r, appends(2, 0, term, 0, 0, 0, 1))
			wantLooks(t, r, raft.Follows, term, 2, 0)
			votedFor := -1
			if term == 5 && i > 0 {
				votedFor = 0
			}
			wantOut(t, r, raft.Work{Term: term, For: votedFor, Messages: []message.Message{got(0, 2, term, 0, 1, true)}})
			// Its votes are forgotten.
			step(t, r, voted(1, 0, term, 0, true), voted(1, 0, term+1, 1, true))
			wantLooks(t, r, raft.Follows, term, 2, 0)
			if _, e := r.Propose(nil); e != api.ErrLeader {
				t.Error(e)
			}
		}
	}
}

// P1507: what is committed is not cut, whoever asks for it.
func TestAppendCutsNothingCommitted(t *testing.T) {
	for commit := range 4 {
		for at := 1; at <= 3; at++ {
			r := follower(t, commit)
			l := nothings(0, 1, 1, 3)[:at-1]
			step(t, r, appends(1, 0, 9, 0, 0, 3, 1, append(l, none(9, at))...))
			w := r.Out()
			if at <= commit {
				if len(w.Ops) != 0 || len(w.Messages) != 0 || w.Commit != commit {
					t.Errorf("commit %d, cut %d:\n%s", commit, at, told(w))
				}
				wantLog(t, r, 0, 0, nothings(0, 1, 1, 3)...)
			} else if len(w.Ops) != 1 || w.Ops[0].Cut != at || w.Commit != max(commit, at) {
				t.Errorf("commit %d, cut %d:\n%s", commit, at, told(w))
			}
		}
	}
}

// P1507: entries at or below its base fit.
func TestAppendBelowBase(t *testing.T) {
	r := made(t, usual, above(start(0, 3, nil), snap5(), none(3, 6)), 0)
	step(t, r, appends(1, 0, 3, 2, 1, 0, 1, nothings(2, 1, 1, 2, 3, 3)...))
	wantOut(t, r, raft.Work{Term: 3, For: -1, Commit: 5, Ops: []raft.Op{added(none(3, 7))}, Messages: []message.Message{got(0, 1, 3, 7, 1, true)}})
	step(t, r, appends(1, 0, 3, 0, 0, 9, 1, nothings(0, 1)...))
	wantOut(t, r, raft.Work{Term: 3, For: -1, Commit: 5, Messages: []message.Message{got(0, 1, 3, 5, 1, true)}})
	step(t, r, appends(1, 0, 3, 5, 1, 9, 1))
	wantOut(t, r, raft.Work{Term: 3, For: -1, Commit: 5, Messages: []message.Message{got(0, 1, 3, 6, 1, false)}})
	wantLog(t, r, 5, 2, nothings(5, 3, 3)...)
}

// P1507: what can't stand behind its base is not told to be there.
func TestAppendBelowBaseOfElderTerm(t *testing.T) {
	r := made(t, usual, above(start(0, 3, nil), snap5(), none(3, 6), none(3, 7)), 0)
	step(t, r, appends(1, 0, 3, 2, 1, 9, 1, nothings(2, 1, 1, 1, 1, 3)...))
	wantOut(t, r, raft.Work{Term: 3, For: -1, Commit: 5, Messages: []message.Message{got(0, 1, 3, 8, 1, false)}})
	wantLog(t, r, 5, 2, nothings(5, 3, 3)...)
}

// P1507: where there is no room: no, from behind its last entry on.
func TestAppendWithoutRoom(t *testing.T) {
	r := made(t, usual, start(0, 2, []int{0, 1}, nothings(0, many(4095, 1)...)...), 0)
	step(t, r, appends(1, 0, 2, 4095, 1, 0, 1, nothings(4095, 2, 2)...))
	wantOut(t, r, raft.Work{Term: 2, For: -1, Messages: []message.Message{got(0, 1, 2, 4096, 1, false)}})
	step(t, r, appends(1, 0, 2, 4095, 1, 9999, 2, nothings(4095, 2)...))
	wantOut(t, r, raft.Work{Term: 2, For: -1, Commit: 4096, Ops: []raft.Op{added(none(2, 4096))}, Messages: []message.Message{got(0, 1, 2, 4096, 2, true)}})
	step(t, r, appends(1, 0, 2, 4096, 2, 9999, 3, nothings(4096, 2)...))
	wantOut(t, r, raft.Work{Term: 2, For: -1, Commit: 4096, Messages: []message.Message{got(0, 1, 2, 4097, 3, false)}})
	// Nor is something cut where what comes in its place has no room.
	r = made(t, usual, start(0, 2, []int{0, 1}, nothings(0, many(4096, 1)...)...), 0)
	step(t, r, appends(1, 0, 2, 4095, 1, 0, 1, nothings(4095, 2, 2)...))
	wantOut(t, r, raft.Work{Term: 2, For: -1, Messages: []message.Message{got(0, 1, 2, 4097, 1, false)}})
	if v := r.View(); len(v.L) != 4096 || v.L[4095].Term != 1 {
		t.Error(len(v.L))
	}
}

// P1507: a leader of the term 2 with 3 entries of the term 1 and its own; the peers begin at 4.
func leader4(t *testing.T) *raft.Raft {
	t.Helper()
	return leading(t, usual, start(0, 1, []int{0, 1, 2}, nothings(0, 1, 1, 1)...))
}

// P1506, P1507: a no with a hint: it is sent what it needs from there on.
func TestGotNo(t *testing.T) {
	r := leader4(t)
	step(t, r, got(1, 0, 2, 2, 1, false))
	wantOut(t, r, raft.Work{Term: 2, For: 0, Messages: []message.Message{appends(0, 1, 2, 1, 1, 0, 1, none(1, 2), none(1, 3), none(2, 4))}})
	step(t, r, got(1, 0, 2, 2, 1, false))
	wantOut(t, r, raft.Work{Term: 2, For: 0})
	step(t, r, got(1, 0, 2, 0, 1, false))
	wantOut(t, r, raft.Work{Term: 2, For: 0, Messages: []message.Message{appends(0, 1, 2, 0, 0, 0, 1, none(1, 1), none(1, 2), none(1, 3), none(2, 4))}})
	// The other one is sent what it needs by itself.
	tick(t, r, 2)
	wantOut(t, r, raft.Work{Term: 2, For: 0, Messages: []message.Message{appends(0, 1, 2, 0, 0, 0, 2, nothings(0, 1, 1, 1, 2)...), appends(0, 2, 2, 3, 1, 0, 2, none(2, 4))}})
}

// P1507: a yes: what it has, and so what is committed; and more, if there is more.
func TestGotYes(t *testing.T) {
	r := leader4(t)
	// Entries of an elder term are not committed by themselves; and the peer is at 4 still: it is sent that again only where it changed.
	step(t, r, got(1, 0, 2, 3, 1, true))
	wantOut(t, r, raft.Work{Term: 2, For: 0, Messages: []message.Message{appends(0, 1, 2, 3, 1, 0, 1, none(2, 4))}})
	step(t, r, got(1, 0, 2, 3, 1, true))
	wantOut(t, r, raft.Work{Term: 2, For: 0})
	step(t, r, got(1, 0, 2, 4, 1, true))
	wantOut(t, r, raft.Work{Term: 2, For: 0, Commit: 4})
	step(t, r, got(1, 0, 2, 4, 1, true), got(1, 0, 2, 2, 1, true), got(1, 0, 2, 1, 1, false))
	wantOut(t, r, raft.Work{Term: 2, For: 0, Commit: 4})
	tick(t, r, 2)
	wantOut(t, r, raft.Work{Term: 2, For: 0, Commit: 4, Messages: []message.Message{appends(0, 1, 2, 4, 2, 4, 2), appends(0, 2, 2, 3, 1, 4, 2, none(2, 4))}})
	// What it can't have does not count.
	r = leader4(t)
	step(t, r, got(1, 0, 2, 5, 1, true), got(2, 0, 2, 1<<40, 1, true), got(2, 0, 2, 6, 1, false))
	wantOut(t, r, raft.Work{Term: 2, For: 0})
}

// P1506: at most 8 entries, with what is committed and the round; what comes next behind its answer.
func TestBatches(t *testing.T) {
	r := leading(t, usual, start(0, 1, []int{0, 1, 2}, nothings(0, many(20, 1)...)...))
	step(t, r, got(1, 0, 2, 1, 1, false))
	wantSent(t, r, appends(0, 1, 2, 0, 0, 0, 1, nothings(0, many(8, 1)...)...))
	step(t, r, got(1, 0, 2, 8, 1, true))
	wantSent(t, r, appends(0, 1, 2, 8, 1, 0, 1, nothings(8, many(8, 1)...)...))
	tick(t, r, 2)
	r.Out()
	step(t, r, got(1, 0, 2, 16, 1, true))
	wantSent(t, r, appends(0, 1, 2, 16, 1, 0, 2, nothings(16, 1, 1, 1, 1, 2)...))
	step(t, r, got(1, 0, 2, 21, 2, true))
	wantSent(t, r)
	wantLooks(t, r, raft.Leads, 2, 0, 21)
}

// P1507: an answer of an elder term, or from no server, or to one that does not lead, counts for nothing; of a higher term it follows.
func TestGotThatDoesNotCount(t *testing.T) {
	for _, kind := range []int{message.Got, message.Have} {
		answer := func(from, term int, yes bool) message.Message {
			return message.Message{Kind: kind, From: from, To: 0, Term: term, A: 4, D: 1, Yes: yes}
		}
		r := leader4(t)
		step(t, r, answer(1, 1, true), answer(1, 1, false), answer(9, 2, true), answer(9, 2, false), answer(15, 1, true))
		wantOut(t, r, raft.Work{Term: 2, For: 0})
		wantLooks(t, r, raft.Leads, 2, 0, 0)
		for _, from := range []int{1, 9} {
			for _, yes := range []bool{true, false} {
				r := leader4(t)
				if e := r.Step(answer(from, 3, yes), 1); e != api.OK {
					t.Fatal(e)
				}
				wantLooks(t, r, raft.Follows, 3, -1, 0)
				wantOut(t, r, raft.Work{Term: 3, For: -1})
				tick(t, r, 5)
				wantLooks(t, r, raft.Follows, 3, -1, 0)
				tick(t, r, 1)
				wantLooks(t, r, raft.Tries, 3, -1, 0)
			}
		}
		r = follower(t, 1)
		step(t, r, answer(1, 3, true), answer(2, 2, true))
		wantOut(t, r, raft.Work{Term: 3, For: -1, Commit: 1})
		wantLooks(t, r, raft.Follows, 3, 2, 1)
		step(t, r, answer(1, 4, true))
		wantLooks(t, r, raft.Follows, 4, -1, 1)
	}
}

// P1507: what is committed is what more than half have; the leader has all that it has.
func TestCommitted(t *testing.T) {
	r := leading(t, usual, start(0, 0, []int{0, 1, 2, 3, 4}))
	for range 3 {
		r.Propose(nil)
	}
	for _, c := range []struct{ from, at, want int }{{1, 4, 0}, {2, 2, 2}, {3, 3, 3}, {3, 2, 3}, {4, 4, 4}} {
		step(t, r, got(c.from, 0, 1, c.at, 1, true))
		if r.Commit() != c.want {
			t.Errorf("behind %d has %d: %d is committed", c.from, c.at, r.Commit())
		}
	}
	// A leader that is not on the list is none of those.
	r = leading(t, usual, start(0, 1, []int{0, 1, 2}, listed(1, 1, 1, 2)))
	step(t, r, got(1, 0, 2, 2, 1, true))
	wantLooks(t, r, raft.Leads, 2, 0, 0)
	step(t, r, got(2, 0, 2, 2, 1, true))
	wantLooks(t, r, raft.Leads, 2, 0, 2)
}
