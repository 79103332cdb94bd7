package raft_test

import (
	"testing"

	"hustings/api"
	"hustings/message"
	"hustings/raft"
)

// P1512, P1513, P1514: whatever befalls, one leads in a term, logs match, and what is committed is one entry for all; reads tell nothing old. P1516: when all arrives, some server leads, and all have what it committed.
func TestChance(t *testing.T) {
	led, ready, snaps, cuts, retired, most := 0, 0, 0, 0, 0, 0
	for seed := range int64(100) {
		first := 2 + int(seed)%4
		w := newWorld(t, seed, first, first+int(seed)%3)
		for n := range 1000 {
			w.befall()
			if w.rnd.Intn(100) < 1+int(seed)%8 {
				w.storm()
			}
			if n%100 == 0 {
				w.checkLogs()
			}
		}
		w.checkLogs()
		clear(w.side)
		if w.options.Least == 7 {
			w.wantSettled(func(id int) int { return id })
		} else {
			w.wantSettled(func(int) int { return w.rnd.Int() })
		}
		led, ready, snaps, cuts, retired, most = led+len(w.leaders), ready+w.ready, snaps+w.snaps, cuts+w.cuts, retired+w.retired, most+w.most
	}
	if led < 200 || ready < 200 || snaps < 50 || cuts < 20 || retired < 5 || most < 3000 {
		t.Errorf("too little befell: %d leads, %d reads, %d snapshots, %d cuts, %d retired, %d entries", led, ready, snaps, cuts, retired, most)
	}
}

// P1516: from the beginning, with all draws alike and all messages in order, some server comes to lead.
func TestInTheEnd(t *testing.T) {
	for first := 1; first <= 7; first++ {
		w := newWorld(t, int64(first), first, first)
		w.wantSettled(func(id int) int { return id })
	}
}

// P1516: the leader is gone, and the server whose timer is the shortest lacks an entry: the other one comes to lead, though that one never stops asking.
func TestInTheEndWithoutLeader(t *testing.T) {
	w := newWorld(t, 1, 3, 3)
	w.heal(20, func(id int) int { return id })
	old := w.leads()
	lacks, has := (old.ID()+1)%3, (old.ID()+2)%3
	draw := func(id int) int {
		if id == lacks {
			return 0
		}
		return 2
	}
	w.side[lacks] = 1
	index, _ := old.Propose([]byte("x"))
	w.work(old.ID())
	for len(w.net) > 0 {
		w.deliver(0, draw(w.net[0].To))
	}
	if old.Commit() != index {
		t.Fatal(looks(old))
	}
	w.side[lacks], w.side[old.ID()] = 0, 1
	w.heal(100, draw)
	if r := w.rs[has]; r.Role() != raft.Leads || r.Commit() <= index || w.rs[lacks].Commit() != r.Commit() {
		t.Errorf("%s\n%s", looks(r), looks(w.rs[lacks]))
	}
}

// P1515: who hears nothing, but is heard, ends no lead; nor does it when it hears again.
func TestCutOffDeposesNobody(t *testing.T) {
	for servers := 3; servers <= 7; servers++ {
		w := newWorld(t, 5, servers, servers)
		w.heal(20, func(id int) int { return id })
		r := w.leads()
		term := r.Term()
		cut := servers - 1
		for n := range 300 {
			w.rs[cut].Tick(n)
			w.work(cut)
			r.Tick(n)
			w.work(r.ID())
			for len(w.net) > 0 {
				if w.net[0].To == cut {
					w.net = w.net[1:]
				} else {
					w.deliver(0, n)
				}
			}
			for id := range servers {
				if id != cut && id != r.ID() {
					w.rs[id].Tick(n)
					w.work(id)
				}
			}
			if r.Role() != raft.Leads || r.Term() != term {
				t.Fatalf("behind %d ticks: %s", n, looks(r))
			}
		}
		w.heal(20, func(id int) int { return id })
		if r.Role() != raft.Leads || r.Term() != term || w.rs[cut].Leader() != r.ID() {
			t.Fatalf("%s\n%s", looks(r), looks(w.rs[cut]))
		}
	}
}

// P1515: nor does who was removed, and was not told of it.
func TestRemovedDeposesNobody(t *testing.T) {
	w := newWorld(t, 6, 4, 4)
	w.heal(20, func(id int) int { return id })
	r := w.leads()
	gone := (r.ID() + 1) % 4
	if _, e := r.Change(false, gone); e != api.OK {
		t.Fatal(e)
	}
	w.work(r.ID())
	term := r.Term()
	tried := 0
	for range 200 {
		w.heal(1, func(id int) int { return id })
		if w.rs[gone].Role() == raft.Tries {
			tried++
		}
		if r.Role() != raft.Leads || r.Term() != term {
			t.Fatal(looks(r))
		}
	}
	if tried < 100 || len(r.Servers()) != 3 || r.Commit() < 2 {
		t.Error(tried, looks(r))
	}
}

// P1501, P10: any messages and calls, in any order, are answered, and no state comes of them that may not be.
func TestAnything(t *testing.T) {
	for seed := range int64(60) {
		w := newWorld(t, seed, 3, 3)
		r, d := w.rs[0], &w.disks[0]
		for n := range 600 {
			before := looks(r)
			if e := w.anything(r, 1+n/40); e != api.OK && looks(r) != before {
				t.Fatalf("error %d, but %s\nwas %s", e, looks(r), before)
			}
			out := r.Out()
			for _, m := range out.Messages {
				if _, e := message.Put(m); e != api.OK || m.From != 0 {
					t.Fatalf("a message that may not be: %s", letter(m))
				}
			}
			d.Term, d.For = out.Term, out.For
			for _, o := range out.Ops {
				w.do(d, o)
			}
			if v := r.View(); !sameView(v, d.View) {
				t.Fatalf("[%s], but by what it told [%s]", row(v.L), row(d.View.L))
			}
			if _, e := raft.New(w.options, *d, 0); e != api.OK {
				t.Fatalf("%s: it could not come back: error %d", looks(r), e)
			}
		}
	}
}

// odd: a number that is an edge of something.
func (w *world) odd() int {
	return []int{0, 1, 2, 3, 5, 8, 20, 1 << 39, 1<<39 + 1, 1 << 40, -1, lowest, highest}[w.rnd.Intn(13)]
}

// anything: a call, by chance; messages of about that term.
func (w *world) anything(r *raft.Raft, term int) api.Errno {
	switch w.rnd.Intn(12) {
	case 0:
		return r.Tick(w.odd())
	case 1:
		_, e := r.Propose(make([]byte, w.rnd.Intn(2)*4097))
		return e
	case 2:
		_, e := r.Change(w.rnd.Intn(2) == 0, w.odd())
		return e
	case 3:
		return r.Read(w.odd())
	}
	return r.Step(w.anyMessage(term), w.odd())
}

func (w *world) anyMessage(term int) message.Message {
	small := func() int { return w.rnd.Intn(6) }
	m := message.Message{Kind: w.rnd.Intn(8), From: w.rnd.Intn(17), To: w.rnd.Intn(8) / 7, Term: term + w.rnd.Intn(3), A: small(), B: small(), C: small(), D: small(), Yes: w.rnd.Intn(2) == 0}
	if w.rnd.Intn(4) == 0 {
		m.A, m.C, m.D = w.odd(), w.odd(), w.odd()
	}
	switch m.Kind {
	case message.Append:
		for i := range w.rnd.Intn(10) {
			m.Entries = append(m.Entries, none(max(m.B, 1)+w.rnd.Intn(2)*w.rnd.Intn(2), m.A+1+i))
		}
	case message.Snap:
		m.Servers, m.Data = []int{0, w.rnd.Intn(4) + 1}, make([]byte, w.rnd.Intn(2)*w.rnd.Intn(40000))
	}
	return m
}
