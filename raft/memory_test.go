package raft_test

import (
	"bytes"
	"slices"
	"testing"

	"hustings/api"
	"hustings/entries"
	"hustings/message"
	"hustings/raft"
	"hustings/snaps"
)

// The lists that are handed in here have room behind them, in which bytes stand that must stay.

func roomyBytes(b []byte) []byte {
	return append(append(make([]byte, 0, len(b)+3), b...), 1, 2, 3)[:len(b)]
}

func roomyNumbers(l []int) []int {
	return append(append(make([]int, 0, len(l)+2), l...), 77, 78)[:len(l)]
}

func roomyEntries(l []api.Entry) []api.Entry {
	r := make([]api.Entry, 0, len(l)+1)
	for _, x := range l {
		x.Data = roomyBytes(x.Data)
		r = append(r, x)
	}
	return append(r, command(9, 99, "room"))[:len(l)]
}

func roomySnap(s snaps.Snapshot) snaps.Snapshot {
	s.Servers, s.Data = roomyNumbers(s.Servers), roomyBytes(s.Data)
	return s
}

func spoilBytes(b []byte) {
	for i := range b[:cap(b)] {
		b[:cap(b)][i] ^= 0xff
	}
}

func spoilNumbers(l []int) {
	for i := range l[:cap(l)] {
		l[:cap(l)][i] += 7
	}
}

func spoilEntries(l []api.Entry) {
	for i := range l[:cap(l)] {
		x := &l[:cap(l)][i]
		spoilBytes(x.Data)
		*x = api.Entry{Term: 7, Index: 7, Kind: 7}
	}
}

func spoilSnap(s snaps.Snapshot) {
	spoilNumbers(s.Servers)
	spoilBytes(s.Data)
}

func spoilMessage(m message.Message) {
	spoilEntries(m.Entries)
	spoilNumbers(m.Servers)
	spoilBytes(m.Data)
}

func spoilWork(w raft.Work) {
	for _, o := range w.Ops {
		spoilEntries(o.Add)
		if o.Snap != nil {
			spoilSnap(*o.Snap)
			*o.Snap = snaps.Snapshot{}
		}
	}
	for _, m := range w.Messages {
		spoilMessage(m)
	}
	clear(w.Ops[:cap(w.Ops)])
	clear(w.Messages[:cap(w.Messages)])
	clear(w.Ready[:cap(w.Ready)])
	spoilNumbers(w.Lost)
}

func wantRoom(t *testing.T, what string, b []byte) {
	t.Helper()
	if room := b[len(b):cap(b)]; !bytes.HasPrefix(room, []byte{1, 2, 3}) {
		t.Errorf("%s: the room behind its bytes was changed: %v", what, room)
	}
}

func wantNumbersRoom(t *testing.T, what string, l []int) {
	t.Helper()
	if room := l[len(l):cap(l)]; !slices.Equal(room[:2], []int{77, 78}) {
		t.Errorf("%s: the room behind its numbers was changed: %v", what, room)
	}
}

func wantEntriesRoom(t *testing.T, what string, l []api.Entry) {
	t.Helper()
	for _, x := range l {
		wantRoom(t, what, x.Data)
	}
	if x := l[:len(l)+1][len(l)]; one(x) != one(command(9, 99, "room")) {
		t.Errorf("%s: the room behind its entries was changed: %s", what, one(x))
	}
}

// P1501: what New is handed is not kept and not changed.
func TestNewKeepsNothing(t *testing.T) {
	l := []api.Entry{command(2, 6, "six"), listed(3, 7, 0, 1), command(3, 8, "eight")}
	s := above(start(0, 3, nil), roomySnap(snap5()), roomyEntries(l)...)
	s.Servers = roomyNumbers(s.Servers)
	r := made(t, usual, s, 0)
	want := looks(r)
	same := made(t, usual, above(start(0, 3, nil), snap5(), l...), 0)
	elect(t, r)
	step(t, r, got(1, 0, 4, 1, 1, false))
	wantNumbersRoom(t, "New", s.Servers)
	wantNumbersRoom(t, "New", s.Snap.Servers)
	wantRoom(t, "New", s.Snap.Data)
	wantEntriesRoom(t, "New", s.View.L)
	r = made(t, usual, s, 0)
	spoilNumbers(s.Servers)
	spoilSnap(s.Snap)
	spoilEntries(s.View.L)
	if looks(r) != want || looks(same) != want {
		t.Fatalf("%s\nwas\n%s", looks(r), want)
	}
	for _, r := range []*raft.Raft{r, same} {
		elect(t, r)
		step(t, r, got(1, 0, 4, 1, 1, false))
	}
	if a, b := told(r.Out()), told(same.Out()); a != b {
		t.Errorf("%s\nnot\n%s", a, b)
	}
}

// P1501: nor what Step, Propose and Compact are handed.
func TestCallsKeepNothing(t *testing.T) {
	r := made(t, usual, start(0, 1, []int{0, 1}), 0)
	m := appends(1, 0, 1, 0, 0, 2, 1, roomyEntries([]api.Entry{command(1, 1, "one"), listed(1, 2, 0, 1), command(1, 3, "three")})...)
	step(t, r, m)
	wantEntriesRoom(t, "an Append", m.Entries)
	spoilMessage(m)
	wantLog(t, r, 0, 0, command(1, 1, "one"), listed(1, 2, 0, 1), command(1, 3, "three"))
	s := roomySnap(snaps.Snapshot{Index: 2, Term: 1, Servers: []int{0, 1}, Data: []byte("compact")})
	if e := r.Compact(s); e != api.OK {
		t.Fatal(e)
	}
	wantNumbersRoom(t, "Compact", s.Servers)
	wantRoom(t, "Compact", s.Data)
	spoilSnap(s)
	r.Out()
	elect(t, r)
	r.Out()
	step(t, r, got(1, 0, 2, 1, 1, false))
	wantSent(t, r, piece(0, 1, 2, snaps.Snapshot{Index: 2, Term: 1, Servers: []int{0, 1}}, 0, 1, "compact", true))
	data := roomyBytes([]byte("data"))
	r.Propose(data)
	wantRoom(t, "Propose", data)
	spoilBytes(data)
	if l := r.Out().Ops[0].Add; string(l[0].Data) != "data" {
		t.Error(row(l))
	}
	wantLog(t, r, 2, 1, command(1, 3, "three"), none(2, 4), command(2, 5, "data"))
}

// P1501: nor the pieces of a Snapshot.
func TestPiecesKeepNothing(t *testing.T) {
	r := follower(t, 1)
	for _, c := range []struct {
		place int
		data  string
	}{{0, "ab"}, {2, "cd"}, {4, "ef"}} {
		s := roomySnap(nine())
		m := piece(1, 0, 3, s, c.place, 1, "", c.place == 4)
		m.Data = roomyBytes([]byte(c.data))
		step(t, r, m)
		wantNumbersRoom(t, "a Snap", m.Servers)
		wantRoom(t, "a Snap", m.Data)
		spoilMessage(m)
	}
	s := nine()
	w := r.Out()
	if told(raft.Work{Ops: w.Ops}) != told(raft.Work{Ops: []raft.Op{{Snap: &s}}}) {
		t.Error(told(w))
	}
	spoilWork(w)
	if l := r.Servers(); !slices.Equal(l, []int{0, 1, 5}) {
		t.Error(l)
	}
	elect(t, r)
	r.Out()
	step(t, r, got(1, 0, 4, 1, 1, false))
	wantSent(t, r, piece(0, 1, 4, s, 0, 1, "abcdef", true))
}

// P1501: what is answered is new: spoilt, it changes nothing, neither the Raft nor another answer.
func TestAnswersAreNew(t *testing.T) {
	r := leading(t, usual, above(start(0, 3, nil), snap5(), command(2, 6, "six"), listed(3, 7, 0, 1, 2), command(3, 8, "eight")))
	other := leading(t, usual, above(start(0, 3, nil), snap5(), command(2, 6, "six"), listed(3, 7, 0, 1, 2), command(3, 8, "eight")))
	work := func(r *raft.Raft) raft.Work {
		step(t, r, got(1, 0, 4, 7, 1, false), got(2, 0, 4, 4, 1, false))
		r.Propose([]byte("ten"))
		tick(t, r, 2)
		step(t, r, got(1, 0, 4, 10, 2, true))
		for id := range 3 {
			r.Read(id)
		}
		r.Change(true, 5)
		return r.Out()
	}
	for range 3 {
		want := looks(other)
		spoilEntries(r.View().L)
		spoilNumbers(r.Servers())
		spoilNumbers(r.ServersAt(5))
		spoilNumbers(r.ServersAt(8))
		if looks(r) != want {
			t.Fatalf("%s\nnot\n%s", looks(r), want)
		}
		w := work(r)
		if a, b := told(w), told(work(other)); a != b {
			t.Fatalf("%s\nnot\n%s", a, b)
		}
		spoilWork(w)
	}
	step(t, r, voted(1, 0, 9, 0, false))
	step(t, other, voted(1, 0, 9, 0, false))
	w := r.Out()
	if a, b := told(w), told(other.Out()); a != b || len(w.Lost) == 0 {
		t.Fatalf("%s\nnot\n%s", a, b)
	}
	spoilWork(w)
	if a, b := told(r.Out()), told(other.Out()); a != b || looks(r) != looks(other) {
		t.Fatalf("%s\nnot\n%s", a, b)
	}
}

// P1501: no two lists of one answer share anything: each is spoilt by itself, and all the others stay.
func TestAnswerSharesNothing(t *testing.T) {
	many := func() []byte { return bytes.Repeat([]byte("z"), 4) }
	make1 := func() raft.Work {
		r := leading(t, usual, above(start(0, 3, nil), snap5(), command(3, 6, string(many()))))
		step(t, r, got(1, 0, 4, 6, 1, false), got(2, 0, 4, 1, 1, false), got(2, 0, 4, 2, 1, false))
		r.Propose(many())
		tick(t, r, 4)
		return r.Out()
	}
	lists := func(w raft.Work) []func() {
		var l []func()
		addEntries := func(x []api.Entry) {
			for i := range x {
				l = append(l, func() { spoilBytes(x[i].Data) })
			}
			l = append(l, func() { clear(x[len(x):cap(x)]) })
		}
		for _, o := range w.Ops {
			addEntries(o.Add)
		}
		for _, m := range w.Messages {
			addEntries(m.Entries)
			l = append(l, func() { spoilBytes(m.Data) }, func() { spoilNumbers(m.Servers) })
		}
		return l
	}
	n := len(lists(make1()))
	for k := range n {
		w, before := make1(), make1()
		lists(w)[k]()
		lists(before)[k]()
		// Both were spoilt alike in one list; they may differ from a whole one there alone.
		if told(w) != told(before) {
			t.Errorf("list %d: %s\nnot\n%s", k, told(w), told(before))
		}
		if d := differences(told(w), told(make1())); d > 1 {
			t.Errorf("list %d: spoilt, it changes %d lines", k, d)
		}
	}
}

func differences(a, b string) int {
	x, y := bytes.Split([]byte(a), []byte("\n")), bytes.Split([]byte(b), []byte("\n"))
	n := 0
	for i := range min(len(x), len(y)) {
		if !bytes.Equal(x[i], y[i]) {
			n++
		}
	}
	return n
}

// P1501: what is told hangs on what was called alone: two that were called alike are alike.
func TestAlike(t *testing.T) {
	var first string
	for range 20 {
		r := leading(t, usual, start(3, 0, []int{0, 1, 3, 4, 7, 9, 15}))
		for _, id := range []int{15, 0, 9, 1, 4, 7} {
			step(t, r, got(id, 3, 1, id%2, 1, id%3 != 0))
		}
		r.Propose([]byte("x"))
		tick(t, r, 2)
		r.Change(false, 4)
		r.Read(2)
		all := told(r.Out())
		if first == "" {
			first = all
		}
		if all != first {
			t.Fatalf("%s\nnot\n%s", all, first)
		}
	}
}

// A View that New is handed may be changed behind it by its owner: the Raft's own stays.
func TestViewIsOwn(t *testing.T) {
	v := entries.View{L: nothings(0, 1, 1)}
	r := made(t, usual, raft.Start{Term: 1, For: -1, Servers: []int{0}, View: v}, 0)
	v.L[0].Term = 99
	elect(t, r)
	wantLog(t, r, 0, 0, nothings(0, 1, 1, 2)...)
}
