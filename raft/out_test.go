package raft_test

import (
	"testing"

	"hustings/api"
	"hustings/message"
	"hustings/raft"
	"hustings/reads"
)

// P1511: what came since the last Out, in order, once.
func TestOut(t *testing.T) {
	r := made(t, usual, start(0, 1, []int{0, 1, 2}, nothings(0, 1, 1)...), 0)
	s := nine()
	s.Term = 2
	step(t, r,
		appends(1, 0, 1, 2, 1, 0, 1, command(1, 3, "a"), command(1, 4, "b")),
		appends(2, 0, 2, 3, 1, 3, 1, command(2, 4, "c")),
		appends(2, 0, 2, 4, 2, 3, 1),
		piece(2, 0, 2, s, 0, 2, "abcdef", true),
		appends(2, 0, 2, 9, 2, 3, 3, none(2, 10)),
	)
	want := raft.Work{Term: 2, For: -1, Commit: 9,
		Ops:      []raft.Op{added(command(1, 3, "a"), command(1, 4, "b")), {Cut: 4, Add: []api.Entry{command(2, 4, "c")}}, {Snap: &s}, added(none(2, 10))},
		Messages: []message.Message{got(0, 1, 1, 4, 1, true), got(0, 2, 2, 4, 1, true), got(0, 2, 2, 4, 1, true), have(0, 2, 2, 9, 2, true), got(0, 2, 2, 10, 3, true)},
	}
	wantOut(t, r, want)
	wantOut(t, r, raft.Work{Term: 2, For: -1, Commit: 9})
	wantOut(t, r, raft.Work{Term: 2, For: -1, Commit: 9})
}

// P1511: reads that wait are Lost when it follows, in order, once; those that are Ready are not.
func TestLost(t *testing.T) {
	for what, end := range map[string]message.Message{
		"a vote":                    voted(1, 0, 7, 0, false),
		"a Got":                     got(1, 0, 7, 0, 0, false),
		"a Have":                    have(1, 0, 7, 0, 0, false),
		"another leader":            appends(2, 0, 7, 0, 0, 0, 1),
		"another one's Snap":        piece(2, 0, 7, nine(), 3, 1, "", false),
		"another one in its term":   appends(2, 0, 1, 0, 0, 0, 1),
		"a Snap in its term":        piece(2, 0, 1, snap1(), 3, 1, "", false),
		"a vote from no server":     voted(11, 0, 7, 1, false),
		"a Got from no server":      got(11, 0, 7, 0, 0, true),
		"a Have with a far term":    have(2, 0, maxTerm-1, 0, 0, false),
		"an Append of a far leader": appends(15, 0, maxTerm-1, 0, 0, 0, 0),
	} {
		r := settled(t, 0, 0, 1, 2)
		for _, id := range []int{5, 3, 9} {
			r.Read(id)
		}
		step(t, r, got(1, 0, 1, 1, 2, true))
		r.Read(1)
		w := r.Out()
		if len(w.Ready) != 1 || w.Ready[0] != ready(5, 1) || len(w.Lost) != 0 {
			t.Fatal(what, told(w))
		}
		step(t, r, end)
		if w := r.Out(); told(raft.Work{Ready: w.Ready, Lost: w.Lost}) != told(raft.Work{Lost: []int{3, 9, 1}}) {
			t.Errorf("%s: %s", what, told(w))
		}
		if w := r.Out(); len(w.Lost)+len(w.Ready) != 0 {
			t.Errorf("%s: %s", what, told(w))
		}
		if r.Role() != raft.Follows {
			t.Errorf("%s: %s", what, looks(r))
		}
	}
}

// P1511: what was heard in one lead does not count for the reads of the next one.
func TestNothingHeardInNextLead(t *testing.T) {
	r := settled(t, 0, 0, 1, 2)
	step(t, r, got(1, 0, 1, 1, 1<<40, true), got(2, 0, 1, 1, 1<<40, true), voted(1, 0, 4, 0, false))
	elect(t, r)
	step(t, r, got(1, 0, 5, 2, 0, true))
	if e := r.Read(3); e != api.OK {
		t.Fatal(e)
	}
	if w := r.Out(); len(w.Ready) != 0 {
		t.Error(told(w))
	}
}

// P1511: a read is Ready for those who are servers when Out is asked.
func TestReadyByServers(t *testing.T) {
	r := settled(t, 0, 0, 1, 2)
	r.Read(4)
	step(t, r, got(2, 0, 1, 1, 2, true))
	r.Change(true, 3)
	if w := r.Out(); len(w.Ready) != 0 {
		t.Error("two of four are not more than half:", told(w))
	}
	step(t, r, got(1, 0, 1, 1, 2, true))
	if w := r.Out(); len(w.Ready) != 1 {
		t.Error(told(w))
	}
}

// P1511: a leader that is no server any more leads till that is committed; then it follows in its term.
func TestRetires(t *testing.T) {
	r := settled(t, 0, 0, 1, 2)
	if i, e := r.Change(false, 0); i != 2 || e != api.OK {
		t.Fatal(i, e)
	}
	x := listed(1, 2, 1, 2)
	wantOut(t, r, raft.Work{Term: 1, For: 0, Commit: 1, Ops: []raft.Op{added(x)}, Messages: []message.Message{appends(0, 1, 1, 1, 1, 1, 1, x), appends(0, 2, 1, 1, 1, 1, 1, x)}})
	wantLooks(t, r, raft.Leads, 1, 0, 1)
	step(t, r, got(1, 0, 1, 2, 1, true))
	r.Out()
	wantLooks(t, r, raft.Leads, 1, 0, 1)
	r.Read(1)
	step(t, r, got(1, 0, 1, 2, 2, true), got(2, 0, 1, 2, 2, true))
	r.Read(2)
	r.Read(3)
	wantLooks(t, r, raft.Leads, 1, 0, 2)
	w := r.Out()
	wantLooks(t, r, raft.Follows, 1, -1, 2)
	if w.Term != 1 || w.For != 0 || w.Commit != 2 || told(raft.Work{Ready: w.Ready, Lost: w.Lost}) != told(raft.Work{Ready: []reads.Ready{ready(1, 1)}, Lost: []int{2, 3}}) {
		t.Error(told(w))
	}
	tick(t, r, 100)
	wantOut(t, r, raft.Work{Term: 1, For: 0, Commit: 2})
	if _, e := r.Propose(nil); e != api.ErrLeader {
		t.Error(e)
	}
}

// P1511: one that came to lead, though its log removes it, retires when that is committed.
func TestRetiresBehindElection(t *testing.T) {
	r := leading(t, usual, start(0, 1, []int{0, 1, 2}, none(1, 1), listed(1, 2, 1, 2)))
	wantLooks(t, r, raft.Leads, 2, 0, 0)
	step(t, r, got(1, 0, 2, 3, 1, true))
	r.Out()
	wantLooks(t, r, raft.Leads, 2, 0, 0)
	step(t, r, got(2, 0, 2, 3, 1, true))
	wantOut(t, r, raft.Work{Term: 2, For: 0, Commit: 3})
	wantLooks(t, r, raft.Follows, 2, -1, 3)
}

// P1511: a leader that is a server stays, whatever its list.
func TestStays(t *testing.T) {
	r := settled(t, 0, 0, 1)
	r.Change(false, 1)
	r.Out()
	wantLooks(t, r, raft.Leads, 1, 0, 2)
	r.Change(true, 9)
	r.Out()
	wantLooks(t, r, raft.Leads, 1, 0, 2)
}
