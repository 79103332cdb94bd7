package raft_test

import (
	"fmt"
	"slices"
	"strings"
	"testing"

	"hustings/api"
	"hustings/entries"
	"hustings/message"
	"hustings/raft"
	"hustings/reads"
	"hustings/snaps"
	"hustings/wire"
)

const (
	highest = 1<<63 - 1
	lowest  = -1 << 63
	maxTerm = 1 << 40
)

// usual: a least limit of 5 ticks, a round every 2, pieces of 10 bytes.
var usual = raft.Options{Least: 5, Beat: 2, Chunk: 10}

func none(term, index int) api.Entry {
	return api.Entry{Term: term, Index: index, Kind: api.Nothing}
}

func command(term, index int, text string) api.Entry {
	return api.Entry{Term: term, Index: index, Kind: api.Command, Data: []byte(text)}
}

func listed(term, index int, servers ...int) api.Entry {
	b, _ := wire.PutServers(servers)
	return api.Entry{Term: term, Index: index, Kind: api.Servers, Data: b}
}

// nothings: entries behind an index, of these terms.
func nothings(base int, terms ...int) []api.Entry {
	var l []api.Entry
	for i, term := range terms {
		l = append(l, none(term, base+1+i))
	}
	return l
}

// many: so many of one thing.
func many(n, of int) []int {
	return slices.Repeat([]int{of}, n)
}

// start: of a server with a term and entries, who voted for nobody.
func start(id, term int, servers []int, l ...api.Entry) raft.Start {
	return raft.Start{ID: id, Term: term, For: -1, Servers: servers, View: entries.View{L: l}}
}

// above: the same start, with a Snapshot as its base.
func above(s raft.Start, snap snaps.Snapshot, l ...api.Entry) raft.Start {
	s.View = entries.View{Base: snap.Index, Term: snap.Term, L: l}
	s.Servers, s.Snap = snap.Servers, snap
	return s
}

func made(t *testing.T, o raft.Options, s raft.Start, draw int) *raft.Raft {
	t.Helper()
	r, e := raft.New(o, s, draw)
	if e != api.OK || r == nil {
		t.Fatalf("New: %v, error %d", r, e)
	}
	return r
}

func step(t *testing.T, r *raft.Raft, l ...message.Message) {
	t.Helper()
	for _, m := range l {
		if e := r.Step(m, 0); e != api.OK {
			t.Fatalf("Step of %s: error %d", letter(m), e)
		}
	}
}

func tick(t *testing.T, r *raft.Raft, n int) {
	t.Helper()
	for range n {
		if e := r.Tick(0); e != api.OK {
			t.Fatalf("Tick: error %d", e)
		}
	}
}

// leading: a server that came to lead, by the votes of all others; its Work was asked.
func leading(t *testing.T, o raft.Options, s raft.Start) *raft.Raft {
	t.Helper()
	r := made(t, o, s, 0)
	elect(t, r)
	r.Out()
	return r
}

// elect: it stands, and all others vote for it.
func elect(t *testing.T, r *raft.Raft) {
	t.Helper()
	for range 1000 {
		tick(t, r, 1)
		if r.Role() != raft.Follows {
			break
		}
	}
	for _, trial := range []int{1, 0} {
		for _, id := range r.Servers() {
			if id != r.ID() && r.Role() != raft.Leads {
				step(t, r, voted(id, r.ID(), r.Term()+trial, trial, true))
			}
		}
	}
	if r.Role() != raft.Leads {
		t.Fatalf("role %d in term %d, but all voted for it", r.Role(), r.Term())
	}
}

func asks(from, to, term, index, last, c int) message.Message {
	return message.Message{Kind: message.Ask, From: from, To: to, Term: term, A: index, B: last, C: c}
}

func voted(from, to, term, c int, yes bool) message.Message {
	return message.Message{Kind: message.Vote, From: from, To: to, Term: term, C: c, Yes: yes}
}

func appends(from, to, term, a, b, c, d int, l ...api.Entry) message.Message {
	return message.Message{Kind: message.Append, From: from, To: to, Term: term, A: a, B: b, C: c, D: d, Entries: l}
}

func got(from, to, term, a, d int, yes bool) message.Message {
	return message.Message{Kind: message.Got, From: from, To: to, Term: term, A: a, D: d, Yes: yes}
}

// piece: of a Snapshot, from a place on, and whether it is the last one.
func piece(from, to, term int, s snaps.Snapshot, place, d int, data string, yes bool) message.Message {
	return message.Message{Kind: message.Snap, From: from, To: to, Term: term, A: s.Index, B: s.Term, C: place, D: d, Yes: yes, Servers: s.Servers, Data: []byte(data)}
}

func have(from, to, term, a, d int, yes bool) message.Message {
	return message.Message{Kind: message.Have, From: from, To: to, Term: term, A: a, D: d, Yes: yes}
}

// one: an entry as text.
func one(x api.Entry) string {
	return fmt.Sprintf("%d/%d/%d<%x>", x.Index, x.Term, x.Kind, x.Data)
}

func row(l []api.Entry) string {
	var s []string
	for _, x := range l {
		s = append(s, one(x))
	}
	return strings.Join(s, " ")
}

func snapshot(s snaps.Snapshot) string {
	return fmt.Sprintf("%d/%d %v <%x>", s.Index, s.Term, s.Servers, s.Data)
}

func letter(m message.Message) string {
	kind := "?"
	if m.Kind >= 1 && m.Kind <= 6 {
		kind = []string{"", "Ask", "Vote", "Append", "Got", "Snap", "Have"}[m.Kind]
	}
	return fmt.Sprintf("%s %d>%d term %d: %d %d %d %d %v [%s] %v <%x>", kind, m.From, m.To, m.Term, m.A, m.B, m.C, m.D, m.Yes, row(m.Entries), m.Servers, m.Data)
}

// told: a Work as text, in which a list that is nil is as good as an empty one.
func told(w raft.Work) string {
	s := []string{fmt.Sprintf("term %d for %d commit %d", w.Term, w.For, w.Commit)}
	for _, o := range w.Ops {
		op := fmt.Sprintf("op cut %d add [%s]", o.Cut, row(o.Add))
		if o.Snap != nil {
			op += " snap " + snapshot(*o.Snap)
		}
		s = append(s, op)
	}
	for _, m := range w.Messages {
		s = append(s, letter(m))
	}
	return strings.Join(append(s, fmt.Sprintf("ready %v lost %v", w.Ready, w.Lost)), "\n")
}

// wantOut: what came since the last Out is just this.
func wantOut(t *testing.T, r *raft.Raft, want raft.Work) {
	t.Helper()
	w := r.Out()
	if told(w) != told(want) {
		t.Fatalf("Out:\n%s\nnot\n%s", told(w), told(want))
	}
	for _, m := range w.Messages {
		if _, e := message.Put(m); e != api.OK {
			t.Fatalf("a message that may not be: %s", letter(m))
		}
	}
}

// wantSent: these messages were sent, whatever else there is to be done.
func wantSent(t *testing.T, r *raft.Raft, want ...message.Message) {
	t.Helper()
	w := r.Out()
	if a, b := told(raft.Work{Messages: w.Messages}), told(raft.Work{Messages: want}); a != b {
		t.Fatalf("sent:\n%s\nnot\n%s", a, b)
	}
}

// looks: all that can be seen of a Raft without changing it.
func looks(r *raft.Raft) string {
	v := r.View()
	return fmt.Sprintf("id %d term %d role %d leader %d commit %d base %d/%d [%s] servers %v at commit %v", r.ID(), r.Term(), r.Role(), r.Leader(), r.Commit(), v.Base, v.Term, row(v.L), r.Servers(), r.ServersAt(r.Commit()))
}

func wantLooks(t *testing.T, r *raft.Raft, role, term, leader, commit int) {
	t.Helper()
	if r.Role() != role || r.Term() != term || r.Leader() != leader || r.Commit() != commit {
		t.Fatalf("role %d, term %d, leader %d, commit %d, not %d, %d, %d, %d", r.Role(), r.Term(), r.Leader(), r.Commit(), role, term, leader, commit)
	}
}

func wantLog(t *testing.T, r *raft.Raft, base, term int, l ...api.Entry) {
	t.Helper()
	if v := r.View(); v.Base != base || v.Term != term || row(v.L) != row(l) {
		t.Fatalf("View %d/%d [%s], not %d/%d [%s]", v.Base, v.Term, row(v.L), base, term, row(l))
	}
}

// added: an Op by which entries came.
func added(l ...api.Entry) raft.Op { return raft.Op{Add: l} }

func ready(id, index int) reads.Ready { return reads.Ready{ID: id, Index: index} }
