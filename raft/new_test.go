package raft_test

import (
	"bytes"
	"testing"

	"hustings/api"
	"hustings/entries"
	"hustings/message"
	"hustings/raft"
	"hustings/snaps"
)

// P1501: of a Raft that is nil, or that New did not make; and it stays so.
func TestUnmade(t *testing.T) {
	for what, r := range map[string]*raft.Raft{"nil": nil, "zero": {}, "new": new(raft.Raft)} {
		for range 2 {
			index, e := r.Propose([]byte("x"))
			to, f := r.Change(true, 1)
			for _, e := range []api.Errno{e, f, r.Tick(0), r.Step(asks(1, 0, 1, 0, 0, 1), 0), r.Step(message.Message{}, 0), r.Read(1), r.Compact(snaps.Snapshot{}), r.Compact(snaps.Snapshot{Index: 1, Term: 1, Servers: []int{0}})} {
				if e != api.ErrArg {
					t.Errorf("%s: error %d", what, e)
				}
			}
			if index != 0 || to != 0 {
				t.Errorf("%s: index %d, %d", what, index, to)
			}
			if r.ID() != 0 || r.Term() != 0 || r.Role() != 0 || r.Leader() != 0 || r.Commit() != 0 || len(r.Servers()) != 0 || len(r.ServersAt(0)) != 0 || len(r.ServersAt(highest)) != 0 {
				t.Errorf("%s: %s", what, looks(r))
			}
			wantLog(t, r, 0, 0)
			wantOut(t, r, raft.Work{})
		}
	}
}

// P1502: options that may be, and their edges.
func TestOptions(t *testing.T) {
	s := start(0, 0, []int{0})
	for _, o := range []raft.Options{{2, 1, 1}, {1000, 1, 60000}, {1000, 999, 1}, {3, 2, 100}} {
		made(t, o, s, 0)
	}
	for _, o := range []raft.Options{
		{}, {1, 1, 1}, {0, 1, 1}, {-1, 1, 1}, {1001, 1, 1}, {highest, 1, 1}, {lowest, 1, 1},
		{5, 0, 1}, {5, -1, 1}, {5, 5, 1}, {5, 6, 1}, {5, highest, 1}, {5, lowest, 1}, {lowest, lowest, 1}, {2, 2, 1},
		{5, 1, 0}, {5, 1, -1}, {5, 1, 60001}, {5, 1, highest}, {5, 1, lowest},
	} {
		if r, e := raft.New(o, s, 0); r != nil || e != api.ErrArg {
			t.Errorf("%v: %v, error %d", o, r, e)
		}
	}
}

// snap5: a Snapshot that may be, of 25 bytes.
func snap5() snaps.Snapshot {
	return snaps.Snapshot{Index: 5, Term: 2, Servers: []int{0, 1, 2}, Data: []byte("abcdefghijklmnopqrstuvwxy")}
}

// P1502: a start that may be, and its edges.
func TestStart(t *testing.T) {
	based := above(start(0, 3, nil), snap5(), nothings(5, 2, 3)...)
	with := func(s raft.Start, change func(*raft.Start)) raft.Start {
		change(&s)
		return s
	}
	for what, s := range map[string]raft.Start{
		"first id":        start(0, 0, []int{0}),
		"last id":         start(15, 0, []int{0}),
		"last term":       start(0, maxTerm-1, []int{0}),
		"voted for 15":    {Term: 1, For: 15, Servers: []int{0}},
		"voted for 0":     {Term: 1, Servers: []int{0}},
		"no server":       start(0, 0, nil),
		"empty lists":     {For: -1, Servers: []int{}, View: entries.View{L: []api.Entry{}}, Snap: snaps.Snapshot{Servers: []int{}, Data: []byte{}}},
		"seven servers":   start(0, 0, []int{1, 2, 3, 5, 8, 13, 15}),
		"its own term":    start(0, 4, []int{0}, nothings(0, 1, 4)...),
		"a based one":     based,
		"without data":    with(based, func(s *raft.Start) { s.Snap.Data = nil }),
		"much data":       with(based, func(s *raft.Start) { s.Snap.Data = make([]byte, 60000) }),
		"base's term":     with(based, func(s *raft.Start) { s.View.L, s.Term = nil, 2 }),
		"last base":       with(based, func(s *raft.Start) { s.View.L, s.View.Base, s.Snap.Index = nil, 1<<39, 1<<39 }),
		"a full log":      start(0, 1, []int{0}, nothings(0, many(4096, 1)...)...),
		"term at base 0":  with(start(0, 1, []int{0}), func(s *raft.Start) { s.View.Term = 1 }),
		"a list in a log": start(0, 1, nil, listed(1, 1, 3, 4)),
	} {
		if r, e := raft.New(usual, s, 0); r == nil || e != api.OK {
			t.Errorf("%s: %v, error %d", what, r, e)
		}
	}
	for what, s := range map[string]raft.Start{
		"id -1":             start(-1, 0, []int{0}),
		"id 16":             start(16, 0, []int{0}),
		"lowest id":         start(lowest, 0, []int{0}),
		"term -1":           start(0, -1, []int{0}),
		"highest term":      start(0, maxTerm, []int{0}),
		"for -2":            {For: -2, Servers: []int{0}},
		"for 16":            {For: 16, Servers: []int{0}},
		"for highest":       {For: highest, Servers: []int{0}},
		"falling servers":   start(0, 0, []int{1, 0}),
		"a server twice":    start(0, 0, []int{0, 0}),
		"server 16":         start(0, 0, []int{0, 16}),
		"eight servers":     start(0, 0, []int{0, 1, 2, 3, 4, 5, 6, 7}),
		"an entry's term":   start(0, 3, []int{0}, nothings(0, 1, 4)...),
		"a gap":             start(0, 3, []int{0}, none(1, 2)),
		"a falling term":    start(0, 3, []int{0}, nothings(0, 2, 1)...),
		"too many":          start(0, 1, []int{0}, nothings(0, many(4097, 1)...)...),
		"base's term above": with(based, func(s *raft.Start) { s.View.L, s.Term = nil, 1 }),
		"base -1":           with(based, func(s *raft.Start) { s.View.L, s.View.Base, s.Snap.Index = nil, -1, -1 }),
		"base too high":     with(based, func(s *raft.Start) { s.View.L, s.View.Base, s.Snap.Index = nil, 1<<39+1, 1<<39+1 }),
		"no servers":        with(based, func(s *raft.Start) { s.Servers, s.Snap.Servers = nil, nil }),
		"other servers":     with(based, func(s *raft.Start) { s.Servers = []int{0, 1} }),
		"no snapshot":       with(based, func(s *raft.Start) { s.Snap = snaps.Snapshot{} }),
		"other index":       with(based, func(s *raft.Start) { s.Snap.Index = 4 }),
		"other term":        with(based, func(s *raft.Start) { s.Snap.Term = 1 }),
		"term 0":            with(based, func(s *raft.Start) { s.Snap.Term, s.View.Term = 0, 0 }),
		"too much data":     with(based, func(s *raft.Start) { s.Snap.Data = make([]byte, 60001) }),
		"snapshot at 0":     with(start(0, 2, []int{0}), func(s *raft.Start) { s.Snap = snap5() }),
		"index at 0":        with(start(0, 2, []int{0}), func(s *raft.Start) { s.Snap.Index = 1 }),
		"term at 0":         with(start(0, 2, []int{0}), func(s *raft.Start) { s.Snap.Term = 1 }),
		"servers at 0":      with(start(0, 2, []int{0}), func(s *raft.Start) { s.Snap.Servers = []int{0} }),
		"data at 0":         with(start(0, 2, []int{0}), func(s *raft.Start) { s.Snap.Data = []byte("x") }),
	} {
		if r, e := raft.New(usual, s, 0); r != nil || e != api.ErrArg {
			t.Errorf("%s: %v, error %d", what, r, e)
		}
	}
}

// P1502: it Follows, nobody leads, committed is the Base; nothing is to be done.
func TestNew(t *testing.T) {
	r := made(t, usual, raft.Start{ID: 3, Term: 4, For: 2, Servers: []int{1, 3}, View: entries.View{L: []api.Entry{none(1, 1), command(4, 2, "x")}}}, 0)
	wantLooks(t, r, raft.Follows, 4, -1, 0)
	wantLog(t, r, 0, 0, none(1, 1), command(4, 2, "x"))
	wantOut(t, r, raft.Work{Term: 4, For: 2})
	r = made(t, usual, above(start(7, 3, nil), snap5(), nothings(5, 2, 3)...), 0)
	wantLooks(t, r, raft.Follows, 3, -1, 5)
	wantLog(t, r, 5, 2, nothings(5, 2, 3)...)
	wantOut(t, r, raft.Work{Term: 3, For: -1, Commit: 5})
	if r.ID() != 7 {
		t.Error(r.ID())
	}
}

// P1502: its timer has the least limit and the rest of the draw.
func TestDraws(t *testing.T) {
	for draw, limit := range map[int]int{0: 5, 1: 6, 4: 9, 5: 5, 23: 8, -1: 9, -5: 5, highest: 5 + highest%5, lowest: 5 + (lowest%5+5)%5} {
		r := made(t, usual, start(0, 0, []int{0, 1}), draw)
		tick(t, r, limit-1)
		wantSent(t, r)
		tick(t, r, 1)
		wantSent(t, r, asks(0, 1, 1, 0, 0, 1))
	}
}

// The servers of a log are those of its last entry of that kind, or else of its base; up to an index alike.
func TestServers(t *testing.T) {
	r := made(t, usual, above(start(0, 3, nil), snap5(), none(2, 6), listed(2, 7, 0, 1), none(3, 8), listed(3, 9, 0), none(3, 10)), 0)
	for i, want := range map[int][]int{
		lowest: {0, 1, 2}, -1: {0, 1, 2}, 0: {0, 1, 2}, 5: {0, 1, 2}, 6: {0, 1, 2}, 7: {0, 1}, 8: {0, 1}, 9: {0}, 10: {0}, 11: {0}, highest: {0},
	} {
		if got := r.ServersAt(i); len(got) != len(want) {
			t.Errorf("ServersAt(%d) is %v, not %v", i, got, want)
		}
	}
	if l := r.Servers(); len(l) != 1 || l[0] != 0 {
		t.Error(l)
	}
	r = made(t, usual, start(0, 0, nil), 0)
	if len(r.Servers()) != 0 || len(r.ServersAt(0)) != 0 || len(r.ServersAt(3)) != 0 {
		t.Error(r.Servers())
	}
}

// P1502a: a message that may not be, that is for another one, or from itself: nothing has changed.
func TestStepErrors(t *testing.T) {
	r := made(t, usual, start(1, 1, []int{0, 1, 2}, none(1, 1)), 0)
	before := looks(r)
	right := asks(0, 1, 2, 1, 1, 0)
	bad := map[string]func(*message.Message){
		"for another one": func(m *message.Message) { m.To = 2 },
		"from itself":     func(m *message.Message) { m.From = 1 },
		"kind 0":          func(m *message.Message) { m.Kind = 0 },
		"kind 7":          func(m *message.Message) { m.Kind = 7 },
		"from 16":         func(m *message.Message) { m.From = 16 },
		"from -1":         func(m *message.Message) { m.From = -1 },
		"term 0":          func(m *message.Message) { m.Term = 0 },
		"highest term":    func(m *message.Message) { m.Term = maxTerm },
		"A -1":            func(m *message.Message) { m.A = -1 },
		"B highest":       func(m *message.Message) { m.B = highest },
		"C too high":      func(m *message.Message) { m.C = 1<<40 + 1 },
		"D lowest":        func(m *message.Message) { m.D = lowest },
		"entries":         func(m *message.Message) { m.Entries = nothings(1, 2) },
		"servers":         func(m *message.Message) { m.Servers = []int{0} },
		"data":            func(m *message.Message) { m.Data = []byte("x") },
		"a bad entry":     func(m *message.Message) { m.Kind, m.Entries = message.Append, []api.Entry{{Term: 2, Index: 2}} },
		"nine entries":    func(m *message.Message) { m.Kind, m.Entries = message.Append, nothings(1, many(9, 2)...) },
		"no servers":      func(m *message.Message) { m.Kind = message.Snap },
		"too much data": func(m *message.Message) {
			m.Kind, m.Servers, m.Data = message.Snap, []int{0}, bytes.Repeat([]byte("x"), 65537)
		},
	}
	for what, change := range bad {
		m := right
		change(&m)
		if e := r.Step(m, 3); e != api.ErrArg {
			t.Errorf("%s: error %d", what, e)
		}
	}
	if looks(r) != before {
		t.Errorf("%s\nwas\n%s", looks(r), before)
	}
	wantOut(t, r, raft.Work{Term: 1, For: -1})
	// Its timer was not reset either.
	tick(t, r, 4)
	for _, change := range bad {
		m := right
		change(&m)
		r.Step(m, 3)
	}
	tick(t, r, 1)
	wantSent(t, r, asks(1, 0, 2, 1, 1, 1), asks(1, 2, 2, 1, 1, 1))
}
