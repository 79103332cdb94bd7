package raft_test

import (
	"bytes"
	"testing"

	"hustings/api"
	"hustings/message"
	"hustings/raft"
	"hustings/reads"
	"hustings/snaps"
)

// P1509: who does not lead refuses, ahead of all else.
func TestOnlyLeaders(t *testing.T) {
	tries := made(t, usual, start(0, 0, []int{0, 1, 2}), 0)
	tick(t, tries, 5)
	stands := made(t, usual, start(0, 0, []int{0, 1, 2}), 0)
	tick(t, stands, 5)
	step(t, stands, voted(1, 0, 1, 1, true))
	for _, r := range []*raft.Raft{made(t, usual, start(0, 0, []int{0, 1, 2}), 0), tries, stands} {
		w := r.Out()
		before := looks(r)
		for _, data := range [][]byte{nil, []byte("x"), make([]byte, 5000)} {
			if i, e := r.Propose(data); i != 0 || e != api.ErrLeader {
				t.Error(i, e)
			}
		}
		for _, id := range []int{0, 3, -1, 16, highest, lowest} {
			for _, add := range []bool{true, false} {
				if i, e := r.Change(add, id); i != 0 || e != api.ErrLeader {
					t.Error(i, e)
				}
			}
			if e := r.Read(id); e != api.ErrLeader {
				t.Error(e)
			}
		}
		if looks(r) != before {
			t.Error(looks(r))
		}
		wantOut(t, r, raft.Work{Term: w.Term, For: w.For})
	}
}

// P1509: a Command behind its log, which all others are sent.
func TestPropose(t *testing.T) {
	r := leading(t, usual, start(0, 0, []int{0, 1, 2}))
	i, e := r.Propose([]byte("hi"))
	x, y := none(1, 1), command(1, 2, "hi")
	if i != 2 || e != api.OK {
		t.Fatal(i, e)
	}
	wantOut(t, r, raft.Work{Term: 1, For: 0, Ops: []raft.Op{added(y)}, Messages: []message.Message{appends(0, 1, 1, 0, 0, 0, 1, x, y), appends(0, 2, 1, 0, 0, 0, 1, x, y)}})
	step(t, r, got(2, 0, 1, 2, 1, true))
	i, e = r.Propose(nil)
	z := command(1, 3, "")
	if i != 3 || e != api.OK {
		t.Fatal(i, e)
	}
	wantOut(t, r, raft.Work{Term: 1, For: 0, Commit: 2, Ops: []raft.Op{added(z)}, Messages: []message.Message{appends(0, 1, 1, 0, 0, 2, 1, x, y, z), appends(0, 2, 1, 2, 1, 2, 1, z)}})
	wantLog(t, r, 0, 0, x, y, z)
}

// P1509: one server alone commits at once.
func TestProposeAlone(t *testing.T) {
	r := leading(t, usual, start(0, 0, []int{0}))
	for n := 2; n < 6; n++ {
		if i, e := r.Propose([]byte{byte(n)}); i != n || e != api.OK || r.Commit() != n {
			t.Fatal(i, e, r.Commit())
		}
		wantOut(t, r, raft.Work{Term: 1, For: 0, Commit: n, Ops: []raft.Op{added(command(1, n, string([]byte{byte(n)})))}})
	}
}

// P1509: more than 4096 bytes are too many; then, a log of 4096 entries has no room.
func TestProposeErrors(t *testing.T) {
	r := leading(t, usual, start(0, 0, []int{0}))
	for _, n := range []int{4097, 10000} {
		if i, e := r.Propose(make([]byte, n)); i != 0 || e != api.ErrSize {
			t.Error(i, e)
		}
	}
	wantOut(t, r, raft.Work{Term: 1, For: 0, Commit: 1})
	if i, e := r.Propose(make([]byte, 4096)); i != 2 || e != api.OK {
		t.Error(i, e)
	}
	r = leading(t, usual, start(0, 1, []int{0, 1}, nothings(0, many(4094, 1)...)...))
	if i, e := r.Propose(nil); i != 4096 || e != api.OK {
		t.Error(i, e)
	}
	r.Out()
	if i, e := r.Propose(nil); i != 0 || e != api.ErrFull {
		t.Error(i, e)
	}
	if i, e := r.Propose(make([]byte, 4097)); i != 0 || e != api.ErrSize {
		t.Error(i, e)
	}
	wantOut(t, r, raft.Work{Term: 2, For: 0})
}

// settled: it leads these servers in the term 1, and its first entry is committed; the others have it.
func settled(t *testing.T, id int, servers ...int) *raft.Raft {
	t.Helper()
	r := leading(t, usual, start(id, 0, servers))
	for _, other := range servers {
		if other != id {
			step(t, r, got(other, id, 1, 1, 1, true))
		}
	}
	r.Out()
	wantLooks(t, r, raft.Leads, 1, id, 1)
	return r
}

// P1509: one more server: it counts from its entry on; it begins at the last index, and is sent what it lacks.
func TestChangeAdds(t *testing.T) {
	r := settled(t, 0, 0, 2)
	i, e := r.Change(true, 1)
	if i != 2 || e != api.OK {
		t.Fatal(i, e)
	}
	x := listed(1, 2, 0, 1, 2)
	wantOut(t, r, raft.Work{Term: 1, For: 0, Commit: 1, Ops: []raft.Op{added(x)}, Messages: []message.Message{appends(0, 1, 1, 2, 1, 1, 1), appends(0, 2, 1, 1, 1, 1, 1, x)}})
	if l := r.Servers(); len(l) != 3 || len(r.ServersAt(1)) != 2 {
		t.Error(l)
	}
	step(t, r, got(1, 0, 1, 1, 1, false))
	wantSent(t, r, appends(0, 1, 1, 0, 0, 1, 1, none(1, 1), x))
	step(t, r, got(1, 0, 1, 2, 1, true))
	wantOut(t, r, raft.Work{Term: 1, For: 0, Commit: 2})
}

// P1509: one less: it is sent nothing any more, and counts no more.
func TestChangeDrops(t *testing.T) {
	r := settled(t, 0, 0, 1, 2)
	i, e := r.Change(false, 1)
	if i != 2 || e != api.OK {
		t.Fatal(i, e)
	}
	x := listed(1, 2, 0, 2)
	wantOut(t, r, raft.Work{Term: 1, For: 0, Commit: 1, Ops: []raft.Op{added(x)}, Messages: []message.Message{appends(0, 2, 1, 1, 1, 1, 1, x)}})
	step(t, r, got(1, 0, 1, 2, 1, true))
	wantOut(t, r, raft.Work{Term: 1, For: 0, Commit: 1})
	step(t, r, got(2, 0, 1, 2, 1, true))
	wantOut(t, r, raft.Work{Term: 1, For: 0, Commit: 2})
	// Who comes back begins anew.
	r.Change(true, 1)
	wantSent(t, r, appends(0, 1, 1, 3, 1, 2, 1), appends(0, 2, 1, 2, 1, 2, 1, listed(1, 3, 0, 1, 2)))
}

// P1509: what is committed is reckoned anew, by the new list.
func TestChangeCommits(t *testing.T) {
	r := settled(t, 0, 0, 1)
	if _, e := r.Change(false, 1); e != api.OK {
		t.Fatal(e)
	}
	wantOut(t, r, raft.Work{Term: 1, For: 0, Commit: 2, Ops: []raft.Op{added(listed(1, 2, 0))}})
	// Of four it takes three, of the three that stay two: so an entry that two have is committed by the change.
	r = settled(t, 0, 0, 1, 2, 3)
	r.Propose(nil)
	step(t, r, got(1, 0, 1, 2, 1, true))
	wantLooks(t, r, raft.Leads, 1, 0, 1)
	r.Out()
	if _, e := r.Change(false, 3); e != api.OK {
		t.Fatal(e)
	}
	x := listed(1, 3, 0, 1, 2)
	wantOut(t, r, raft.Work{Term: 1, For: 0, Commit: 2, Ops: []raft.Op{added(x)}, Messages: []message.Message{appends(0, 1, 1, 2, 1, 1, 1, x), appends(0, 2, 1, 1, 1, 1, 1, command(1, 2, ""), x)}})
}

// wantRefused: a change by that error, and nothing comes of it.
func wantRefused(t *testing.T, r *raft.Raft, add bool, id int, want api.Errno) {
	t.Helper()
	before := looks(r)
	if i, e := r.Change(add, id); i != 0 || e != want {
		t.Errorf("Change(%v, %d): %d, error %d, not %d", add, id, i, e, want)
	}
	if looks(r) != before {
		t.Errorf("Change(%v, %d): %s", add, id, looks(r))
	}
	if w := r.Out(); len(w.Messages)+len(w.Ops) != 0 {
		t.Errorf("Change(%v, %d): %s", add, id, told(w))
	}
}

// P1509: a change is refused while an earlier one is not committed, then before an entry of its own term is; then by conf; then where there is no room.
func TestChangeErrors(t *testing.T) {
	r := settled(t, 0, 0, 1, 2)
	for _, id := range []int{-1, 16, highest, lowest} {
		wantRefused(t, r, true, id, api.ErrArg)
		wantRefused(t, r, false, id, api.ErrArg)
	}
	wantRefused(t, r, true, 1, api.ErrServer)
	wantRefused(t, r, false, 3, api.ErrServer)
	wantRefused(t, settled(t, 0, 0), false, 0, api.ErrServer)
	wantRefused(t, settled(t, 0, 0, 1, 2, 3, 4, 5, 6), true, 7, api.ErrServer)
	r.Change(true, 3)
	r.Out()
	for _, id := range []int{-1, 1, 3, 4, highest} {
		wantRefused(t, r, true, id, api.ErrBusy)
		wantRefused(t, r, false, id, api.ErrBusy)
	}
	step(t, r, got(1, 0, 1, 2, 1, true))
	wantRefused(t, r, false, 3, api.ErrBusy)
	step(t, r, got(2, 0, 1, 2, 1, true))
	r.Out()
	if i, e := r.Change(false, 3); i != 3 || e != api.OK {
		t.Error(i, e)
	}
	early := leading(t, usual, start(0, 1, []int{0, 1, 2}, none(1, 1)))
	wantRefused(t, early, true, 3, api.ErrEarly)
	wantRefused(t, early, true, -1, api.ErrEarly)
	step(t, early, got(1, 0, 2, 1, 1, true))
	early.Out()
	wantRefused(t, early, true, 1, api.ErrEarly)
	step(t, early, got(1, 0, 2, 2, 1, true))
	early.Out()
	wantRefused(t, early, true, 1, api.ErrServer)
	// A change of an elder term that is not committed is one, too.
	busy := leading(t, usual, start(0, 1, []int{0, 1}, listed(1, 1, 0, 1, 2)))
	wantRefused(t, busy, true, 3, api.ErrBusy)
	step(t, busy, got(1, 0, 2, 2, 1, true))
	busy.Out()
	if i, e := busy.Change(true, 3); i != 3 || e != api.OK {
		t.Error(i, e)
	}
}

// P1509: no room is the last of the errors.
func TestChangeWithoutRoom(t *testing.T) {
	r := leading(t, usual, start(0, 1, []int{0}, nothings(0, many(4095, 1)...)...))
	wantLooks(t, r, raft.Leads, 2, 0, 4096)
	wantRefused(t, r, true, 16, api.ErrArg)
	wantRefused(t, r, false, 0, api.ErrServer)
	wantRefused(t, r, true, 1, api.ErrFull)
	r = leading(t, usual, start(0, 1, []int{0}, nothings(0, many(4094, 1)...)...))
	if i, e := r.Change(true, 1); i != 4096 || e != api.OK {
		t.Error(i, e)
	}
}

// P1509: a read waits for the next round, which begins with it, at what is committed.
func TestRead(t *testing.T) {
	r := settled(t, 0, 0, 1, 2)
	if e := r.Read(7); e != api.OK {
		t.Fatal(e)
	}
	wantOut(t, r, raft.Work{Term: 1, For: 0, Commit: 1, Messages: []message.Message{appends(0, 1, 1, 1, 1, 1, 2), appends(0, 2, 1, 1, 1, 1, 2)}})
	step(t, r, got(1, 0, 1, 1, 1, true))
	wantOut(t, r, raft.Work{Term: 1, For: 0, Commit: 1})
	step(t, r, got(2, 0, 1, 1, 2, true))
	wantOut(t, r, raft.Work{Term: 1, For: 0, Commit: 1, Ready: []reads.Ready{ready(7, 1)}})
	wantOut(t, r, raft.Work{Term: 1, For: 0, Commit: 1})
}

// P1509: an answer counts for its round, be it a no.
func TestReadByNo(t *testing.T) {
	r := settled(t, 0, 0, 1, 2)
	r.Read(-5)
	r.Read(6)
	r.Out()
	step(t, r, got(1, 0, 1, 0, 2, false))
	if w := r.Out(); len(w.Ready) != 1 || w.Ready[0] != ready(-5, 1) {
		t.Error(told(w))
	}
	step(t, r, got(2, 0, 1, 0, 9, false))
	if w := r.Out(); len(w.Ready) != 1 || w.Ready[0] != ready(6, 1) {
		t.Error(told(w))
	}
}

// P1509: one server alone need hear nobody.
func TestReadAlone(t *testing.T) {
	r := settled(t, 3, 3)
	r.Read(1)
	r.Propose(nil)
	r.Read(2)
	if w := r.Out(); len(w.Ready) != 2 || w.Ready[0] != ready(1, 1) || w.Ready[1] != ready(2, 2) || len(w.Messages) != 0 {
		t.Error(told(w))
	}
}

// P1509: a read is refused before an entry of the leader's own term is committed; then by reads.
func TestReadErrors(t *testing.T) {
	r := leading(t, usual, start(0, 1, []int{0, 1}, none(1, 1)))
	if e := r.Read(1); e != api.ErrEarly {
		t.Error(e)
	}
	wantOut(t, r, raft.Work{Term: 2, For: 0})
	step(t, r, got(1, 0, 2, 1, 1, true))
	if e := r.Read(1); e != api.ErrEarly {
		t.Error(e)
	}
	step(t, r, got(1, 0, 2, 2, 1, true))
	for id := range 100 {
		if e := r.Read(id); e != api.OK {
			t.Fatal(id, e)
		}
		if e := r.Read(id); e != api.ErrThere {
			t.Fatal(id, e)
		}
	}
	r.Out()
	if e := r.Read(100); e != api.ErrFull {
		t.Error(e)
	}
	// What was refused began no round.
	wantSent(t, r)
	tick(t, r, 2)
	wantSent(t, r, appends(0, 1, 2, 2, 2, 2, 102))
	// A base of its own term counts as an entry.
	r = leading(t, usual, above(start(0, 2, nil), snap5(), none(2, 6)))
	if e := r.Read(1); e != api.ErrEarly {
		t.Error(e)
	}
	step(t, r, got(1, 0, 3, 7, 1, true))
	if e := r.Compact(snaps.Snapshot{Index: 7, Term: 3, Servers: []int{0, 1, 2}}); e != api.OK {
		t.Error(e)
	}
	if e := r.Read(1); e != api.OK {
		t.Error(e)
	}
}

// compactable: base 5 of the term 2, entries of the terms 2 3 3 4, with a list at 7; up to 8 all is committed.
func compactable(t *testing.T) *raft.Raft {
	t.Helper()
	r := made(t, usual, above(start(0, 4, nil), snap5(), none(2, 6), listed(3, 7, 0, 1), none(3, 8), none(4, 9)), 0)
	step(t, r, appends(1, 0, 4, 9, 4, 8, 1))
	r.Out()
	wantLooks(t, r, raft.Follows, 4, 1, 8)
	return r
}

// P1510: a Snapshot of what is committed is the base; the entries behind it stay.
func TestCompact(t *testing.T) {
	for _, s := range []snaps.Snapshot{
		{Index: 6, Term: 2, Servers: []int{0, 1, 2}, Data: []byte("x")},
		{Index: 7, Term: 3, Servers: []int{0, 1}},
		{Index: 8, Term: 3, Servers: []int{0, 1}, Data: make([]byte, 60000)},
	} {
		r := compactable(t)
		before := r.View()
		if e := r.Compact(s); e != api.OK {
			t.Fatal(s.Index, e)
		}
		wantLog(t, r, s.Index, s.Term, before.L[s.Index-5:]...)
		wantLooks(t, r, raft.Follows, 4, 1, 8)
		if l := r.ServersAt(s.Index); len(l) != len(s.Servers) || len(r.Servers()) != 2 {
			t.Error(l)
		}
		wantOut(t, r, raft.Work{Term: 4, For: -1, Commit: 8})
		if e := r.Compact(s); e != api.ErrGap {
			t.Error(e)
		}
	}
}

// P1510: what may not be, and what does not fit the log; nothing has changed then.
func TestCompactErrors(t *testing.T) {
	r := compactable(t)
	before := looks(r)
	three, two := []int{0, 1, 2}, []int{0, 1}
	for _, c := range []struct {
		s    snaps.Snapshot
		want api.Errno
	}{
		{snaps.Snapshot{}, api.ErrArg},
		{snaps.Snapshot{Index: 0, Term: 2, Servers: three}, api.ErrArg},
		{snaps.Snapshot{Index: -1, Term: 2, Servers: three}, api.ErrArg},
		{snaps.Snapshot{Index: 1 << 40, Term: 2, Servers: three}, api.ErrArg},
		{snaps.Snapshot{Index: 6, Term: 0, Servers: three}, api.ErrArg},
		{snaps.Snapshot{Index: 6, Term: maxTerm, Servers: three}, api.ErrArg},
		{snaps.Snapshot{Index: 6, Term: 2}, api.ErrArg},
		{snaps.Snapshot{Index: 6, Term: 2, Servers: []int{1, 0}}, api.ErrArg},
		{snaps.Snapshot{Index: 6, Term: 2, Servers: three, Data: make([]byte, 60001)}, api.ErrArg},
		{snaps.Snapshot{Index: 1, Term: 2, Servers: three}, api.ErrGap},
		{snaps.Snapshot{Index: 5, Term: 2, Servers: three}, api.ErrGap},
		{snaps.Snapshot{Index: 9, Term: 4, Servers: two}, api.ErrGap},
		{snaps.Snapshot{Index: 10, Term: 4, Servers: two}, api.ErrGap},
		{snaps.Snapshot{Index: 1 << 39, Term: 4, Servers: two}, api.ErrGap},
		{snaps.Snapshot{Index: 1<<39 + 1, Term: 4, Servers: two}, api.ErrGap},
		{snaps.Snapshot{Index: 1<<40 - 1, Term: 4, Servers: two}, api.ErrGap},
		{snaps.Snapshot{Index: 1<<40 - 1, Term: 4, Servers: []int{1, 0}}, api.ErrArg},
		{snaps.Snapshot{Index: 6, Term: 1, Servers: three}, api.ErrGap},
		{snaps.Snapshot{Index: 6, Term: 3, Servers: three}, api.ErrGap},
		{snaps.Snapshot{Index: 6, Term: 2, Servers: two}, api.ErrGap},
		{snaps.Snapshot{Index: 7, Term: 3, Servers: three}, api.ErrGap},
		{snaps.Snapshot{Index: 8, Term: 3, Servers: []int{0, 2}}, api.ErrGap},
	} {
		if e := r.Compact(c.s); e != c.want {
			t.Errorf("%s: error %d, not %d", snapshot(c.s), e, c.want)
		}
	}
	if looks(r) != before {
		t.Error(looks(r))
	}
	wantOut(t, r, raft.Work{Term: 4, For: -1, Commit: 8})
	// The servers of a log without any are none that a Snapshot may have.
	r = made(t, usual, start(0, 1, nil, none(1, 1)), 0)
	step(t, r, appends(1, 0, 1, 1, 1, 1, 1))
	if e := r.Compact(snaps.Snapshot{Index: 1, Term: 1, Servers: []int{0}}); e != api.ErrGap {
		t.Error(e)
	}
}

// P1510: a log's base is at most 2^39: a Snapshot above that may be, but can't be its base, though it is committed, and the log goes on.
func TestCompactAtTheEnd(t *testing.T) {
	r := leading(t, usual, above(start(0, 2, nil), snaps.Snapshot{Index: 1 << 39, Term: 2, Servers: []int{0}}))
	wantLooks(t, r, raft.Leads, 3, 0, 1<<39+1)
	if e := r.Compact(snaps.Snapshot{Index: 1<<39 + 1, Term: 3, Servers: []int{0}}); e != api.ErrGap {
		t.Error(e)
	}
	if i, e := r.Propose(nil); i != 1<<39+2 || e != api.OK || r.Commit() != i {
		t.Error(i, e, r.Commit())
	}
}

// P1510: a leader's base moves, too: who lacks what lay below is sent the Snapshot then.
func TestCompactOfLeader(t *testing.T) {
	r := settled(t, 0, 0, 1, 2)
	r.Propose([]byte("x"))
	step(t, r, got(1, 0, 1, 2, 1, true))
	r.Out()
	s := snaps.Snapshot{Index: 2, Term: 1, Servers: []int{0, 1, 2}, Data: bytes.Repeat([]byte("y"), 11)}
	if e := r.Compact(s); e != api.OK {
		t.Fatal(e)
	}
	if i, e := r.Propose(nil); i != 3 || e != api.OK {
		t.Fatal(i, e)
	}
	wantSent(t, r, appends(0, 1, 1, 2, 1, 2, 1, command(1, 3, "")), piece(0, 2, 1, s, 0, 1, "yyyyyyyyyy", false))
}
