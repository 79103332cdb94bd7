package raft_test

import (
	"strings"
	"testing"

	"hustings/api"
	"hustings/message"
	"hustings/raft"
	"hustings/snaps"
)

// snapLeader: it leads in the term 3 above snap5, whose 25 bytes go in pieces of 10; the entry 6 is its own.
func snapLeader(t *testing.T) *raft.Raft {
	t.Helper()
	return leading(t, usual, above(start(0, 2, nil), snap5()))
}

// P1506, P1508: who lacks what lies below the base is sent the Snapshot, piece by piece, and then the entries behind it.
func TestPieces(t *testing.T) {
	r := snapLeader(t)
	s := snap5()
	step(t, r, got(1, 0, 3, 5, 1, false))
	wantSent(t, r, piece(0, 1, 3, s, 0, 1, "abcdefghij", false))
	step(t, r, have(1, 0, 3, 10, 1, false))
	wantSent(t, r, piece(0, 1, 3, s, 10, 1, "klmnopqrst", false))
	// Each round it is sent the place again that it wanted last, and the other one what that needs.
	tick(t, r, 2)
	wantSent(t, r, piece(0, 1, 3, s, 10, 2, "klmnopqrst", false), appends(0, 2, 3, 5, 2, 5, 2, none(3, 6)))
	step(t, r, have(1, 0, 3, 20, 2, false))
	wantSent(t, r, piece(0, 1, 3, s, 20, 2, "uvwxy", true))
	step(t, r, have(1, 0, 3, 3, 2, false))
	wantSent(t, r, piece(0, 1, 3, s, 3, 2, "defghijklm", false))
	step(t, r, have(1, 0, 3, 15, 2, false))
	wantSent(t, r, piece(0, 1, 3, s, 15, 2, "pqrstuvwxy", true))
	step(t, r, have(1, 0, 3, 5, 2, true))
	wantSent(t, r, appends(0, 1, 3, 5, 2, 5, 2, none(3, 6)))
	step(t, r, have(1, 0, 3, 5, 2, true))
	wantSent(t, r)
}

// P1506: a place at or behind the end: no bytes are left, and they are the last.
func TestPiecesBehindTheEnd(t *testing.T) {
	s := snap5()
	for _, place := range []int{25, 26, 60000, 1 << 40} {
		r := snapLeader(t)
		step(t, r, got(1, 0, 3, 5, 1, false))
		r.Out()
		step(t, r, have(1, 0, 3, place, 1, false))
		wantOut(t, r, raft.Work{Term: 3, For: 0, Commit: 5, Messages: []message.Message{piece(0, 1, 3, s, place, 1, "", true)}})
	}
	s.Data = nil
	r := leading(t, usual, above(start(0, 2, nil), s))
	step(t, r, got(1, 0, 3, 1, 1, false))
	wantSent(t, r, piece(0, 1, 3, s, 0, 1, "", true))
}

// P1506: pieces have Chunk bytes, be it one, or all of them.
func TestChunks(t *testing.T) {
	s := snap5()
	for chunk, want := range map[int]string{1: "a", 24: string(s.Data[:24]), 25: string(s.Data), 26: string(s.Data), 60000: string(s.Data)} {
		r := leading(t, raft.Options{Least: 5, Beat: 2, Chunk: chunk}, above(start(0, 2, nil), s))
		step(t, r, got(1, 0, 3, 5, 1, false))
		wantSent(t, r, piece(0, 1, 3, s, 0, 1, want, chunk >= 25))
	}
}

// P1508: behind a yes the place wanted is the beginning again.
func TestPlaceBehindYes(t *testing.T) {
	r := snapLeader(t)
	s := snap5()
	step(t, r, got(1, 0, 3, 5, 1, false), have(1, 0, 3, 10, 1, false))
	r.Out()
	// A yes that tells less than it needs still: it counts, but the peer is as it was.
	step(t, r, have(1, 0, 3, 0, 1, true))
	wantSent(t, r)
	tick(t, r, 2)
	wantSent(t, r, piece(0, 1, 3, s, 0, 2, "abcdefghij", false), appends(0, 2, 3, 5, 2, 5, 2, none(3, 6)))
}

// P1508: a no is answered at once while the peer is behind, and not any more when it is not.
func TestHaveNo(t *testing.T) {
	r := snapLeader(t)
	step(t, r, have(1, 0, 3, 7, 1, false))
	wantSent(t, r, appends(0, 1, 3, 5, 2, 5, 1, none(3, 6)))
	step(t, r, got(1, 0, 3, 6, 1, true))
	r.Out()
	step(t, r, have(1, 0, 3, 7, 1, false))
	wantSent(t, r)
	wantLooks(t, r, raft.Leads, 3, 0, 6)
}

// P1508: a yes counts as what it has: for what is committed, and for reads.
func TestHaveCounts(t *testing.T) {
	r := snapLeader(t)
	step(t, r, have(1, 0, 3, 6, 1, true))
	wantLooks(t, r, raft.Leads, 3, 0, 6)
	if e := r.Read(4); e != api.OK {
		t.Fatal(e)
	}
	r.Out()
	step(t, r, have(2, 0, 3, 0, 2, false))
	if w := r.Out(); len(w.Ready) != 1 || w.Ready[0] != ready(4, 6) {
		t.Error(told(w))
	}
}

// nine: a Snapshot of the index 9.
func nine() snaps.Snapshot {
	return snaps.Snapshot{Index: 9, Term: 3, Servers: []int{0, 1, 5}, Data: []byte("abcdef")}
}

// P1508: pieces are gathered in order; with the last one the Snapshot is the base.
func TestGather(t *testing.T) {
	r := follower(t, 1)
	s := nine()
	step(t, r, piece(1, 0, 3, s, 0, 4, "ab", false))
	wantOut(t, r, raft.Work{Term: 3, For: -1, Commit: 1, Messages: []message.Message{have(0, 1, 3, 2, 4, false)}})
	wantLooks(t, r, raft.Follows, 3, 1, 1)
	// What comes again, or too early, is not put behind it, though it be the last one.
	step(t, r, piece(1, 0, 3, s, 0, 5, "ab", true), piece(1, 0, 3, s, 3, 6, "def", true), piece(1, 0, 3, s, 1<<40, 7, "x", true))
	wantOut(t, r, raft.Work{Term: 3, For: -1, Commit: 1, Messages: []message.Message{have(0, 1, 3, 2, 5, false), have(0, 1, 3, 2, 6, false), have(0, 1, 3, 2, 7, false)}})
	step(t, r, piece(1, 0, 3, s, 2, 7, "cd", false), piece(1, 0, 3, s, 4, 8, "", false))
	wantOut(t, r, raft.Work{Term: 3, For: -1, Commit: 1, Messages: []message.Message{have(0, 1, 3, 4, 7, false), have(0, 1, 3, 4, 8, false)}})
	wantLog(t, r, 0, 0, nothings(0, 1, 1, 3)...)
	step(t, r, piece(2, 0, 3, s, 4, 9, "ef", true))
	wantOut(t, r, raft.Work{Term: 3, For: -1, Commit: 9, Ops: []raft.Op{{Snap: &s}}, Messages: []message.Message{have(0, 2, 3, 9, 9, true)}})
	wantLooks(t, r, raft.Follows, 3, 2, 9)
	wantLog(t, r, 9, 3)
	if l := r.Servers(); len(l) != 3 || l[2] != 5 {
		t.Error(l)
	}
	// It has it then.
	step(t, r, piece(1, 0, 3, s, 0, 10, "ab", false))
	wantOut(t, r, raft.Work{Term: 3, For: -1, Commit: 9, Messages: []message.Message{have(0, 1, 3, 9, 10, true)}})
}

// P1508: a Snapshot without bytes comes in one piece.
func TestGatherNothing(t *testing.T) {
	r := follower(t, 1)
	s := nine()
	s.Data = nil
	step(t, r, piece(1, 0, 3, s, 0, 4, "", true))
	wantOut(t, r, raft.Work{Term: 3, For: -1, Commit: 9, Ops: []raft.Op{{Snap: &s}}, Messages: []message.Message{have(0, 1, 3, 9, 4, true)}})
}

// P1508: pieces of another Index, Term or Servers begin anew; what was gathered is forgotten.
func TestGatherOthers(t *testing.T) {
	s := nine()
	index, term, servers := nine(), nine(), nine()
	index.Index = 10
	term.Term = 2
	servers.Servers = []int{0, 1}
	for _, other := range []snaps.Snapshot{index, term, servers} {
		r := follower(t, 1)
		step(t, r, piece(1, 0, 3, s, 0, 1, "ab", false))
		r.Out()
		step(t, r, piece(1, 0, 3, other, 2, 2, "cdef", true))
		wantSent(t, r, have(0, 1, 3, 0, 2, false))
		step(t, r, piece(1, 0, 3, other, 0, 3, "abc", false))
		wantSent(t, r, have(0, 1, 3, 3, 3, false))
		step(t, r, piece(1, 0, 3, s, 2, 4, "cdef", true))
		wantSent(t, r, have(0, 1, 3, 0, 4, false))
		wantLooks(t, r, raft.Follows, 3, 1, 1)
	}
}

// P1508: the same Snapshot may come from another leader, in another term.
func TestGatherFromTwo(t *testing.T) {
	r := follower(t, 1)
	s := nine()
	step(t, r, piece(1, 0, 3, s, 0, 1, "abc", false), voted(2, 0, 4, 0, false), piece(2, 0, 5, s, 3, 1, "def", true))
	wantOut(t, r, raft.Work{Term: 5, For: -1, Commit: 9, Ops: []raft.Op{{Snap: &s}}, Messages: []message.Message{have(0, 1, 3, 3, 1, false), have(0, 2, 5, 9, 1, true)}})
}

// P1508: more than 60000 bytes are none that may be: it begins anew.
func TestGatherTooMuch(t *testing.T) {
	s := nine()
	half := strings.Repeat("x", 30000)
	r := follower(t, 1)
	step(t, r, piece(1, 0, 3, s, 0, 1, half, false), piece(1, 0, 3, s, 30000, 2, half+"y", true))
	wantOut(t, r, raft.Work{Term: 3, For: -1, Commit: 1, Messages: []message.Message{have(0, 1, 3, 30000, 1, false), have(0, 1, 3, 0, 2, false)}})
	step(t, r, piece(1, 0, 3, s, 0, 1, strings.Repeat("x", 65536), true), piece(1, 0, 3, s, 0, 1, strings.Repeat("x", 60001), true))
	wantSent(t, r, have(0, 1, 3, 0, 1, false), have(0, 1, 3, 0, 1, false))
	step(t, r, piece(1, 0, 3, s, 0, 1, half, false), piece(1, 0, 3, s, 30000, 2, half, true))
	s.Data = []byte(half + half)
	wantOut(t, r, raft.Work{Term: 3, For: -1, Commit: 9, Ops: []raft.Op{{Snap: &s}}, Messages: []message.Message{have(0, 1, 3, 30000, 1, false), have(0, 1, 3, 9, 2, true)}})
	r = follower(t, 1)
	s.Data = []byte(half + half)
	step(t, r, piece(1, 0, 3, s, 0, 1, half+half, true))
	wantOut(t, r, raft.Work{Term: 3, For: -1, Commit: 9, Ops: []raft.Op{{Snap: &s}}, Messages: []message.Message{have(0, 1, 3, 9, 1, true)}})
}

// P1508: entries behind the Snapshot stay, if the entry of its Index has its Term; else none do.
func TestSnapAmongEntries(t *testing.T) {
	for _, c := range []struct {
		index, term int
		stay        []api.Entry
	}{
		{2, 1, []api.Entry{none(3, 3), listed(3, 4, 0, 2)}},
		{3, 3, []api.Entry{listed(3, 4, 0, 2)}},
		{4, 3, nil},
		{2, 2, nil},
		{3, 2, nil},
		{4, 2, nil},
		{5, 3, nil},
		{1 << 39, 3, nil},
	} {
		r := made(t, usual, start(0, 3, []int{0, 1, 2}, none(1, 1), none(1, 2), none(3, 3), listed(3, 4, 0, 2)), 0)
		s := snaps.Snapshot{Index: c.index, Term: c.term, Servers: []int{0, 1, 5}, Data: []byte("x")}
		step(t, r, piece(1, 0, 3, s, 0, 1, "x", true))
		wantOut(t, r, raft.Work{Term: 3, For: -1, Commit: c.index, Ops: []raft.Op{{Snap: &s}}, Messages: []message.Message{have(0, 1, 3, c.index, 1, true)}})
		wantLog(t, r, c.index, c.term, c.stay...)
		want := 3
		if len(c.stay) > 0 {
			want = 2
		}
		if l := r.Servers(); len(l) != want || len(r.ServersAt(c.index)) != 3 {
			t.Error(c, l)
		}
	}
}

// P1508: what is at or below what is committed is there.
func TestSnapOfCommitted(t *testing.T) {
	for index := range 4 {
		r := follower(t, 3)
		s := snaps.Snapshot{Index: index, Term: 2, Servers: []int{4}, Data: []byte("x")}
		step(t, r, piece(1, 0, 3, s, 0, 6, "x", true))
		wantOut(t, r, raft.Work{Term: 3, For: -1, Commit: 3, Messages: []message.Message{have(0, 1, 3, 3, 6, true)}})
		wantLog(t, r, 0, 0, nothings(0, 1, 1, 3)...)
	}
}

// P1507, P1508: B of a higher term than the Snap's, or A above 2^39: nothing at all.
func TestSnapOfNoTerm(t *testing.T) {
	for _, m := range []message.Message{
		piece(1, 0, 4, snaps.Snapshot{Index: 9, Term: 5, Servers: []int{0}}, 0, 1, "x", true),
		piece(1, 0, 2, snaps.Snapshot{Index: 9, Term: 3, Servers: []int{0}}, 0, 1, "x", true),
		piece(1, 0, 4, snaps.Snapshot{Index: 1<<39 + 1, Term: 3, Servers: []int{0}}, 0, 1, "x", true),
		piece(1, 0, 2, snaps.Snapshot{Index: 1 << 40, Term: 1, Servers: []int{0}}, 0, 1, "x", true),
		piece(1, 0, 4, snaps.Snapshot{Index: 0, Term: 5, Servers: []int{0}}, 0, 1, "x", true),
	} {
		r := follower(t, 1)
		before := looks(r)
		step(t, r, m)
		if looks(r) != before {
			t.Errorf("%s: %s\nwas\n%s", letter(m), looks(r), before)
		}
		wantOut(t, r, raft.Work{Term: 3, For: -1, Commit: 1})
		tick(t, r, 1)
		wantLooks(t, r, raft.Tries, 3, -1, 1)
	}
}

// No entry has the term 0, and no Snapshot either: such a one never is the base.
func TestSnapOfTermZero(t *testing.T) {
	r := follower(t, 1)
	step(t, r, piece(1, 0, 3, snaps.Snapshot{Index: 9, Servers: []int{0}}, 0, 1, "x", true))
	wantOut(t, r, raft.Work{Term: 3, For: -1, Commit: 1})
	wantLog(t, r, 0, 0, nothings(0, 1, 1, 3)...)
}

// P1508: of an elder term: no, and nothing else.
func TestSnapOfElderTerm(t *testing.T) {
	r := follower(t, 1)
	s := nine()
	s.Term = 2
	step(t, r, piece(1, 0, 2, s, 0, 7, "ab", true))
	wantOut(t, r, raft.Work{Term: 3, For: -1, Commit: 1, Messages: []message.Message{have(0, 1, 3, 0, 7, false)}})
	wantLooks(t, r, raft.Follows, 3, 2, 1)
	tick(t, r, 1)
	wantLooks(t, r, raft.Tries, 3, -1, 1)
}

// P1508: as an Append as to the term, the leader and the timer.
func TestSnapLeads(t *testing.T) {
	s := nine()
	for _, term := range []int{3, 8} {
		for _, m := range []message.Message{piece(1, 0, term, s, 0, 1, "a", false), piece(1, 0, term, s, 5, 1, "f", true), piece(1, 0, term, s, 0, 1, "abc", true), piece(1, 0, term, snaps.Snapshot{Index: 1, Term: 1, Servers: []int{0}}, 0, 1, "", true)} {
			tries := follower(t, 1)
			tick(t, tries, 1)
			for _, r := range []*raft.Raft{follower(t, 1), tries} {
				if e := r.Step(m, 3); e != api.OK {
					t.Fatal(e)
				}
				if r.Role() != raft.Follows || r.Leader() != 1 || r.Term() != term {
					t.Fatal(looks(r))
				}
				tick(t, r, 7)
				if r.Role() != raft.Follows {
					t.Fatal(looks(r))
				}
			}
		}
	}
}

// P1508: what was gathered up to an index that is committed by entries is not needed any more: of the next one nothing is there.
func TestGatheredButCommitted(t *testing.T) {
	r := follower(t, 1)
	s := snaps.Snapshot{Index: 4, Term: 3, Servers: []int{0}}
	step(t, r, piece(1, 0, 3, s, 0, 1, "abc", false), appends(1, 0, 3, 3, 3, 4, 2, none(3, 4)), piece(1, 0, 3, s, 3, 3, "def", true))
	wantOut(t, r, raft.Work{Term: 3, For: -1, Commit: 4, Ops: []raft.Op{added(none(3, 4))}, Messages: []message.Message{have(0, 1, 3, 3, 1, false), got(0, 1, 3, 4, 2, true), have(0, 1, 3, 4, 3, true)}})
}

// P1506: behind a Compact the new Snapshot is sent, from the place that was wanted last; who has other pieces begins anew.
func TestCompactWithinPieces(t *testing.T) {
	r := snapLeader(t)
	step(t, r, got(1, 0, 3, 5, 1, false), have(1, 0, 3, 20, 1, false), got(2, 0, 3, 6, 1, true))
	r.Out()
	six := snaps.Snapshot{Index: 6, Term: 3, Servers: []int{0, 1, 2}, Data: []byte("0123456789ABCDEF")}
	if e := r.Compact(six); e != api.OK {
		t.Fatal(e)
	}
	other := made(t, usual, start(1, 3, []int{0, 1, 2}), 0)
	step(t, other, piece(0, 1, 3, snap5(), 0, 1, "abcdefghij", false), piece(0, 1, 3, snap5(), 10, 1, "klmnopqrst", false))
	other.Out()
	tick(t, r, 2)
	for range 10 {
		for _, m := range r.Out().Messages {
			if m.To == 1 {
				step(t, other, m)
			}
		}
		step(t, r, other.Out().Messages...)
	}
	wantLog(t, other, 6, 3)
	wantLooks(t, other, raft.Follows, 3, 0, 6)
}

// snap1: as nine, of the term 1.
func snap1() snaps.Snapshot {
	s := nine()
	s.Term = 1
	return s
}
