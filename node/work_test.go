package node_test

import (
	"bytes"
	"fmt"
	"slices"
	"strings"
	"testing"

	"hustings/api"
	"hustings/machine"
	"hustings/message"
	"hustings/node"
	"hustings/raft"
	"hustings/seglog"
	"hustings/snaps"
	"hustings/stable"
	"hustings/vdisk"
)

// changes: how many changes of a disk something makes.
func changes(t *testing.T, begin func() (*vdisk.Disk, func())) int {
	t.Helper()
	for fuse := range 1000 {
		d, do := begin()
		d.Cut(fuse)
		do()
		if !d.Down() {
			return fuse
		}
	}
	t.Fatal("it makes no end of changes")
	return 0
}

// three: a disk with a vote and a log of three entries.
func three(t *testing.T) *vdisk.Disk {
	t.Helper()
	d := newDisk(t)
	lay(t, d, stable.Vote{Term: 1, For: -1}, 0, 0, none(1, 1), none(1, 2), none(1, 3))
	return d
}

// P1604: the vote, then the Ops in order, then the log's sync, then the messages: as the power that goes at each of the changes shows.
func TestOrder(t *testing.T) {
	before, after := stable.Vote{Term: 1, For: -1}, stable.Vote{Term: 3, For: -1}
	was, is := []api.Entry{none(1, 1), none(1, 2), none(1, 3)}, []api.Entry{none(1, 1), none(3, 2)}
	for fuse, c := range []struct {
		v    stable.Vote
		l    []api.Entry
		sure []api.Entry
	}{
		0: {before, was, was},
		1: {before, was, was},
		2: {before, was, was},
		3: {before, was, was},
		4: {after, was, was}, // its name is not sure yet
		5: {after, was, was},
		6: {after, was[:1], was},
		7: {after, is, was},
		8: {after, is, is},
	} {
		d := three(t)
		n := opened(t, usual, 0, []int{0, 1, 2}, d)
		d.Cut(fuse)
		step(t, n, appends(1, 0, 3, 1, 1, 0, 5, none(3, 2)))
		if n.Down() != (fuse < 8) {
			t.Fatalf("%d changes: %s", fuse, looks(n))
		}
		if n.Down() {
			wantLetters(t, n)
		} else {
			wantLetters(t, n, got(0, 1, 3, 2, 5, true))
		}
		wantDisk(t, d, c.v, 0, 0, c.l...)
		d.Crash(nil)
		if fuse < 5 {
			c.v = before
		}
		wantDisk(t, d, c.v, 0, 0, c.sure...)
	}
}

// P1604: a vote is Saved ahead of the message that tells it, once; without another vote and without Ops nothing is written.
func TestVoteSaved(t *testing.T) {
	d := newDisk(t)
	n := opened(t, usual, 0, []int{0, 1, 2}, d)
	ask := message.Message{Kind: message.Ask, From: 2, To: 0, Term: 4}
	step(t, n, ask)
	wantLetters(t, n, message.Message{Kind: message.Vote, From: 0, To: 2, Term: 4, Yes: true})
	wantDisk(t, d, stable.Vote{Term: 4, For: 2}, 0, 0)
	if n.Vote() != (stable.Vote{Term: 4, For: 2}) {
		t.Error(n.Vote())
	}
	d.Cut(0)
	other := ask
	other.From = 1
	trial := ask
	trial.Term, trial.C = 5, 1
	step(t, n, ask, other, trial, appends(2, 0, 4, 0, 0, 0, 1), appends(2, 0, 3, 0, 0, 0, 1))
	wantLetters(t, n,
		message.Message{Kind: message.Vote, From: 0, To: 2, Term: 4, Yes: true},
		message.Message{Kind: message.Vote, From: 0, To: 1, Term: 4},
		message.Message{Kind: message.Vote, From: 0, To: 2, Term: 5, C: 1, Yes: true},
		got(0, 2, 4, 0, 1, true),
		got(0, 2, 4, 0, 1, false),
	)
	if n.Down() || d.Down() {
		t.Error("something was written")
	}
	// Another vote in another term is written again.
	step(t, n, message.Message{Kind: message.Vote, From: 1, To: 0, Term: 6})
	if !n.Down() {
		t.Error("nothing was written")
	}
}

// P1604: where there are no Ops the log is not synced, though it has files, and entries are applied all the same.
func TestNoOps(t *testing.T) {
	d := three(t)
	n := opened(t, usual, 0, []int{0, 1, 2}, d)
	d.Cut(0)
	step(t, n, appends(1, 0, 1, 3, 1, 2, 1), appends(1, 0, 1, 1, 1, 3, 2, none(1, 2)))
	wantLetters(t, n, got(0, 1, 1, 3, 1, true), got(0, 1, 1, 2, 2, true))
	wantLooks(t, n, raft.Follows, 1, 1, 2, 0, 3)
	if d.Down() {
		t.Error("something was written")
	}
}

// P1604: the same with the votes of one who stands: itself.
func TestStandSaved(t *testing.T) {
	for fuse := range 6 {
		d := newDisk(t)
		n := opened(t, usual, 0, []int{0, 1, 2}, d)
		tick(t, n, 5)
		if l := letters(t, n); len(l) != 2 || l[0].C != 1 || len(d.List()) != 0 {
			t.Fatal(len(l), d.List())
		}
		d.Cut(fuse)
		step(t, n, message.Message{Kind: message.Vote, From: 1, To: 0, Term: 1, C: 1, Yes: true})
		if fuse < 5 {
			if !n.Down() {
				t.Error(looks(n))
			}
			wantLetters(t, n)
			continue
		}
		wantLetters(t, n, message.Message{Kind: message.Ask, From: 0, To: 1, Term: 1}, message.Message{Kind: message.Ask, From: 0, To: 2, Term: 1})
		wantDisk(t, d, stable.Vote{Term: 1, For: 0}, 0, 0)
	}
}

// P1604: a leader's entries last ahead of its messages, too, and the log is synced once for a call.
func TestLeaderSyncs(t *testing.T) {
	d := newDisk(t)
	n := leading(t, usual, d)
	used := changes(t, func() (*vdisk.Disk, func()) {
		d := newDisk(t)
		n := leading(t, usual, d)
		return d, func() { ask(t, n, node.Ask{ID: 1, Kind: node.OpenSession}) }
	})
	if used != 2 {
		t.Errorf("%d changes, not an Append and a Sync", used)
	}
	d.Cut(1)
	ask(t, n, node.Ask{ID: 1, Kind: node.OpenSession})
	if !n.Down() || len(n.Messages()) != 0 {
		t.Error(looks(n))
	}
}

// installed: entries and the snapshot that stands for the first four of them.
func installed(t *testing.T) (snaps.Snapshot, []api.Entry) {
	t.Helper()
	l := []api.Entry{none(1, 1), opens(2, 2), puts(2, 3, 2, 1, "x"), puts(3, 4, 2, 2, "y")}
	return snapshot(t, []int{0, 1, 4}, l...), l
}

// P1604: a Snapshot: snaps.Save, the log's Rebase, the log's Sync, and the machine is that of its Data.
func TestInstall(t *testing.T) {
	s, _ := installed(t)
	begin := func() (*vdisk.Disk, *node.Node) {
		d := newDisk(t)
		lay(t, d, stable.Vote{Term: 3, For: -1}, 0, 0, none(1, 1), none(1, 2))
		return d, opened(t, usual, 0, []int{0, 1, 2}, d)
	}
	want := changes(t, func() (*vdisk.Disk, func()) {
		d, _ := begin()
		return d, func() {
			log, _ := seglog.Open(d)
			_ = snaps.Save(d, s) == api.OK && log.Rebase(s.Index, s.Term) == api.OK && log.Sync() == api.OK
		}
	})
	for fuse := range want + 1 {
		d, n := begin()
		d.Cut(fuse)
		step(t, n, whole(1, 0, 3, s, 7))
		if n.Down() != (fuse < want) {
			t.Fatalf("%d of %d changes: %s", fuse, want, looks(n))
		}
		log, _ := seglog.Open(d)
		present, _, _ := snaps.Load(d)
		if base, _ := log.Base(); base > present.Index {
			t.Fatalf("%d changes: the log begins at %d, and the snapshot is %d", fuse, base, present.Index)
		}
		if n.Down() {
			wantLetters(t, n)
			d.Crash([]int{fuse, fuse, fuse})
			n = opened(t, usual, 0, []int{0, 1, 2}, d)
			if n.Last() != 2 && n.Last() != 4 || n.Base() != 0 && n.Base() != 4 {
				t.Fatalf("%d changes: %s", fuse, looks(n))
			}
			continue
		}
		wantLetters(t, n, have(0, 1, 3, 4, 7, true))
		wantLooks(t, n, raft.Follows, 3, 1, 4, 4, 4)
		wantRecords(t, n, "x", "y")
		wantDisk(t, d, stable.Vote{Term: 3, For: -1}, 4, 4)
		d.Crash(nil)
		n = opened(t, usual, 0, []int{0, 1, 2}, d)
		wantLooks(t, n, raft.Follows, 3, -1, 4, 4, 4)
		wantRecords(t, n, "x", "y")
		if !slices.Equal(n.Servers(), []int{0, 1, 4}) {
			t.Error(n.Servers())
		}
	}
}

// P1604: a Snapshot that came in pieces, and entries behind it.
func TestInstallPieces(t *testing.T) {
	s, _ := installed(t)
	n := opened(t, usual, 0, nil, newDisk(t))
	for place := range s.Data {
		m := whole(1, 0, 3, s, 1)
		m.C, m.Data, m.Yes = place, s.Data[place:place+1], place == len(s.Data)-1
		step(t, n, m)
		if !m.Yes {
			wantLetters(t, n, have(0, 1, 3, place+1, 1, false))
			wantLooks(t, n, raft.Follows, 3, 1, 0, 0, 0)
		}
	}
	wantLetters(t, n, have(0, 1, 3, 4, 1, true))
	step(t, n, appends(1, 0, 3, 4, 3, 5, 2, puts(3, 5, 2, 3, "z")))
	wantLooks(t, n, raft.Follows, 3, 1, 5, 4, 5)
	wantRecords(t, n, "x", "y", "z")
}

// P1604: a Snapshot whose Data is no machine puts it down: nothing is told.
func TestInstallForm(t *testing.T) {
	s, _ := installed(t)
	for _, data := range [][]byte{nil, []byte("no machine"), s.Data[:len(s.Data)-1], append(slices.Clone(s.Data), 0)} {
		bad := s
		bad.Data = data
		d := newDisk(t)
		n := opened(t, usual, 0, []int{0, 1}, d)
		step(t, n, whole(1, 0, 3, bad, 1))
		if !n.Down() || len(n.Messages()) != 0 || d.Down() {
			t.Errorf("<%s>: %s", data, looks(n))
		}
		wantErr(t, "Tick", n.Tick(0), api.ErrDown)
	}
}

// P1604: where Keep entries above the base were applied a snapshot stands for all of them, of whatever kinds they are.
func TestKeep(t *testing.T) {
	for _, keep := range []int{1, 2, 3, 4, 5, 7} {
		d := newDisk(t)
		n := alone(t, keeping(keep), d)
		last := 1
		for id := 1; id <= 20; id++ {
			a := node.Ask{ID: id, Kind: node.Put, Session: 2, Seq: id, Data: []byte{byte('a' + id)}}
			if id == 1 {
				a = node.Ask{ID: id, Kind: node.OpenSession}
			}
			ask(t, n, a)
			last++
			base := last / keep * keep
			wantLooks(t, n, raft.Leads, 1, 0, last, base, last)
			log, _ := seglog.Open(d)
			s, there, _ := snaps.Load(d)
			b, term := log.Base()
			if b != base || s.Index != base || there != (base > 0) || log.Last() != last || there && (s.Term != 1 || term != 1 || !slices.Equal(s.Servers, []int{0})) {
				t.Fatalf("keep %d, last %d: log from %d to %d, snapshot %d", keep, last, b, log.Last(), s.Index)
			}
		}
		if l := n.Answers(); len(l) != 20 || l[19].Number != 18 || l[19].E != api.OK {
			t.Error(said(l))
		}
		d.Crash(nil)
		n = opened(t, keeping(keep), 0, nil, d)
		wantLooks(t, n, raft.Follows, 1, -1, last/keep*keep, last/keep*keep, last)
		tick(t, n, 5)
		if n.Next() != 19 || n.Role() != raft.Leads {
			t.Error(looks(n))
		}
	}
}

// P1604: the snapshot holds the servers of what was applied, not those of what was not; and the machine as it is.
func TestKeepServers(t *testing.T) {
	d := newDisk(t)
	n := leading(t, keeping(3), d)
	ask(t, n, node.Ask{ID: 1, Kind: node.Drop, From: 2})
	step(t, n, got(1, 0, 1, 2, 0, true))
	ask(t, n, node.Ask{ID: 2, Kind: node.OpenSession}, node.Ask{ID: 3, Kind: node.Put, Session: 3, Seq: 1, Data: []byte("x")})
	ask(t, n, node.Ask{ID: 4, Kind: node.Add, From: 5})
	step(t, n, got(1, 0, 1, 4, 0, true))
	wantLooks(t, n, raft.Leads, 1, 0, 4, 4, 5)
	s, _, _ := snaps.Load(d)
	want := saved(t, opens(1, 3), puts(1, 4, 3, 1, "x"))
	if s.Index != 4 || s.Term != 1 || !slices.Equal(s.Servers, []int{0, 1}) || !bytes.Equal(s.Data, want) {
		t.Errorf("%v, not <%x>", s, want)
	}
	if !slices.Equal(n.Servers(), []int{0, 1, 5}) || !slices.Equal(n.ServersAt(4), []int{0, 1}) {
		t.Error(n.Servers())
	}
	wantDisk(t, d, stable.Vote{Term: 1, For: 0}, 4, 4, listed(1, 5, 0, 1, 5))
}

// P1604: not, if the machine's Save has more than 60000 bytes; when it has fewer again, then.
func TestKeepTooMuch(t *testing.T) {
	for _, size := range []int{60000, 60001} {
		const keep = 62
		d := newDisk(t)
		n := alone(t, keeping(keep), d)
		l := []api.Entry{none(1, 1), opens(1, 2)}
		ask(t, n, node.Ask{ID: 1, Kind: node.OpenSession})
		text := strings.Repeat("z", 1000)
		for seq := 1; seq <= keep-2; seq++ {
			if seq == keep-2 {
				less := len(saved(t, append(slices.Clone(l), puts(1, seq+2, 2, seq, text))...)) - size
				text = text[less:]
			}
			l = append(l, puts(1, seq+2, 2, seq, text))
			ask(t, n, node.Ask{ID: 1, Kind: node.Put, Session: 2, Seq: seq, Data: []byte(text)})
		}
		if got := len(saved(t, l...)); got != size {
			t.Fatalf("%d bytes, not %d", got, size)
		}
		if size <= 60000 {
			wantLooks(t, n, raft.Leads, 1, 0, keep, keep, keep)
			continue
		}
		wantLooks(t, n, raft.Leads, 1, 0, keep, 0, keep)
		if s, there, _ := snaps.Load(d); there {
			t.Fatal(s.Index)
		}
		ask(t, n, node.Ask{ID: 1, Kind: node.OpenSession})
		wantLooks(t, n, raft.Leads, 1, 0, keep+1, 0, keep+1)
		ask(t, n, node.Ask{ID: 1, Kind: node.Trim, From: 10})
		wantLooks(t, n, raft.Leads, 1, 0, keep+2, keep+2, keep+2)
	}
}

// P1604: who is not told yet who the servers are goes on without a snapshot, till it is.
func TestKeepWithoutServers(t *testing.T) {
	d := newDisk(t)
	n := opened(t, keeping(1), 3, nil, d)
	step(t, n, appends(0, 3, 1, 0, 0, 3, 1, none(1, 1), opens(1, 2), puts(1, 3, 2, 1, "x")))
	wantLooks(t, n, raft.Follows, 1, 0, 3, 0, 3)
	wantLetters(t, n, got(3, 0, 1, 3, 1, true))
	step(t, n, appends(0, 3, 1, 3, 1, 3, 2, listed(1, 4, 0, 3)), appends(0, 3, 1, 4, 1, 4, 3))
	wantLooks(t, n, raft.Follows, 1, 0, 4, 4, 4)
	wantRecords(t, n, "x")
	d.Crash(nil)
	n = opened(t, keeping(1), 3, nil, d)
	wantLooks(t, n, raft.Follows, 1, -1, 4, 4, 4)
	wantRecords(t, n, "x")
}

// P1604, P1605: where indexes end no base may be: it goes on without a snapshot, and comes back.
func TestKeepAtTheEnd(t *testing.T) {
	s, _ := installed(t)
	s.Index, s.Servers = 1<<39-1, []int{0}
	d := newDisk(t)
	n := opened(t, keeping(1), 0, nil, d)
	step(t, n, whole(1, 0, 3, s, 1))
	elect(t, n)
	wantLooks(t, n, raft.Leads, 4, 0, 1<<39, 1<<39, 1<<39)
	ask(t, n, node.Ask{ID: 1, Kind: node.Put, Session: 2, Seq: 3, Data: []byte("z")})
	wantLooks(t, n, raft.Leads, 4, 0, 1<<39+1, 1<<39, 1<<39+1)
	wantAnswers(t, n, node.Answer{ID: 1, E: api.ErrSession}) // its span has passed
	d.Crash(nil)
	n = opened(t, keeping(1), 0, nil, d)
	wantLooks(t, n, raft.Follows, 4, -1, 1<<39, 1<<39, 1<<39+1)
}

// P1604: snaps.Save, then the log's Rebase: the power that goes at any of the changes puts it down, and nothing of that call is told, nor what was not told before.
func TestCompactWithoutPower(t *testing.T) {
	begin := func() (*vdisk.Disk, *node.Node) {
		d := newDisk(t)
		n := alone(t, keeping(3), d)
		ask(t, n, node.Ask{ID: 1, Kind: node.OpenSession}, node.Ask{ID: 2, Kind: node.Add, From: 7})
		return d, n
	}
	do := func(n *node.Node) { step(t, n, got(7, 0, 1, 3, 1, true)) }
	want := changes(t, func() (*vdisk.Disk, func()) {
		d, n := begin()
		return d, func() { do(n) }
	})
	save := changes(t, func() (*vdisk.Disk, func()) {
		d, _ := begin()
		return d, func() { snaps.Save(d, snaps.Snapshot{Index: 3, Term: 1, Servers: []int{0, 7}}) }
	})
	if want <= save {
		t.Fatal(want, save)
	}
	for fuse := range want {
		d, n := begin()
		d.Cut(fuse)
		do(n)
		if !n.Down() || len(n.Messages()) != 0 || len(n.Answers()) != 0 {
			t.Fatalf("%d changes: %s", fuse, looks(n))
		}
		log, _ := seglog.Open(d)
		base, _ := log.Base()
		s, _, _ := snaps.Load(d)
		if fuse < save && base != 0 || base > s.Index {
			t.Fatalf("%d changes: the log begins at %d, and the snapshot is %d", fuse, base, s.Index)
		}
		d.Crash([]int{fuse, 3, 5, 7})
		n = opened(t, keeping(3), 0, []int{0}, d)
		if n.Last() != 3 || n.Base() != 0 && n.Base() != 3 || n.Applied() != n.Base() {
			t.Fatalf("%d changes: %s", fuse, looks(n))
		}
	}
	d, n := begin()
	d.Cut(want)
	do(n)
	wantAnswers(t, n, node.Answer{ID: 1, Session: 2}, node.Answer{ID: 2})
	wantLooks(t, n, raft.Leads, 1, 0, 3, 3, 3)
}

// P1604: an error of the disk puts it down: what was not told yet is not told, whatever it is.
func TestNothingTold(t *testing.T) {
	d := newDisk(t)
	n := leading(t, usual, d)
	ask(t, n, node.Ask{ID: 1, Kind: node.OpenSession}, node.Ask{ID: 2, Kind: node.Get}, node.Ask{ID: 3, Kind: node.Add, From: 99})
	d.Cut(0)
	ask(t, n, node.Ask{ID: 4, Kind: node.OpenSession})
	if !n.Down() || len(n.Messages()) != 0 || len(n.Answers()) != 0 {
		t.Error(looks(n))
	}
}

// P1603, P1607: once it is down all calls answer ErrDown, and nothing on its disk changes, though the power comes back.
func TestDown(t *testing.T) {
	d := newDisk(t)
	n := leading(t, usual, d)
	ask(t, n, node.Ask{ID: 1, Kind: node.OpenSession})
	d.Cut(1)
	ask(t, n, node.Ask{ID: 2, Kind: node.OpenSession})
	if !n.Down() {
		t.Fatal(looks(n))
	}
	d.Crash([]int{1, 1})
	before, seen := files(d), looks(n)
	for range 20 {
		wantErr(t, "Tick", n.Tick(0), api.ErrDown)
	}
	for _, b := range [][]byte{nil, []byte("x"), put(t, got(1, 0, 1, 2, 1, true)), put(t, appends(1, 0, 9, 0, 0, 0, 1)), put(t, appends(1, 3, 9, 0, 0, 0, 1))} {
		wantErr(t, "Step", n.Step(b, 0), api.ErrDown)
	}
	for _, a := range []node.Ask{{}, {ID: 1, Kind: node.Get}, {ID: 7, Kind: node.OpenSession}, {ID: 7, Kind: 9}} {
		wantErr(t, "Ask", n.Ask(a), api.ErrDown)
	}
	if len(n.Messages()) != 0 || len(n.Answers()) != 0 || files(d) != before || looks(n) != seen || !n.Down() {
		t.Errorf("%s\n%s", looks(n), files(d))
	}
	opened(t, usual, 0, []int{0, 1, 2}, d)
}

// P1604, P1605: a disk that is full puts it down, at whatever size; it comes back with what it told.
func TestFullDisk(t *testing.T) {
	for quota := 1; quota < 1500; quota += 13 {
		d, _ := vdisk.New(quota)
		n := opened(t, keeping(5), 0, []int{0}, d)
		records, session := 0, 0
		for id := 1; id < 60 && !n.Down(); id++ {
			switch {
			case n.Role() != raft.Leads:
				n.Tick(0)
				continue
			case session == 0:
				n.Ask(node.Ask{ID: id, Kind: node.OpenSession})
			default:
				n.Ask(node.Ask{ID: id, Kind: node.Put, Session: session, Seq: id, Data: bytes.Repeat([]byte{byte(id)}, 50)})
			}
			for _, a := range n.Answers() {
				wantErr(t, "Ask", a.E, api.OK)
				if session == 0 {
					session = a.Session
				} else {
					records = a.Number + 1
				}
			}
		}
		if !n.Down() {
			t.Fatalf("quota %d: %s", quota, looks(n))
		}
		term := n.Vote().Term
		d.Crash(nil)
		n, e := node.Open(keeping(5), 0, []int{0}, d, 0)
		if e == api.ErrFull {
			// There is no room to put a log behind a snapshot that was Saved.
			continue
		}
		wantErr(t, "Open", e, api.OK)
		if n.Term() < term {
			t.Fatalf("quota %d: %s", quota, looks(n))
		}
		tick(t, n, 5)
		if !n.Down() && n.Next() < records {
			t.Fatalf("quota %d: %d records were told, but %s", quota, records, looks(n))
		}
	}
}

// P1601: Messages and Answers tell what came since they were asked last, in order.
func TestToldOnce(t *testing.T) {
	n := opened(t, usual, 0, []int{0, 1, 2}, newDisk(t))
	step(t, n, appends(1, 0, 1, 0, 0, 0, 1), appends(1, 0, 1, 0, 0, 0, 2))
	ask(t, n, node.Ask{ID: 1, Kind: node.Get})
	step(t, n, appends(1, 0, 1, 0, 0, 0, 3))
	ask(t, n, node.Ask{ID: 2, Kind: node.Get})
	wantLetters(t, n, got(0, 1, 1, 0, 1, true), got(0, 1, 1, 0, 2, true), got(0, 1, 1, 0, 3, true))
	wantLetters(t, n)
	wantAnswers(t, n, node.Answer{ID: 1, E: api.ErrLeader, Leader: 1}, node.Answer{ID: 2, E: api.ErrLeader, Leader: 1})
	wantAnswers(t, n)
}

// P1604: commands are applied at their indexes, so that sessions go by them; what is no command adds nothing.
func TestApply(t *testing.T) {
	o := usual
	o.Span = 3
	n := opened(t, o, 0, []int{0, 1}, newDisk(t))
	l := []api.Entry{opens(1, 1), puts(1, 2, 1, 1, "a"), none(1, 3), command(1, 4, []byte("no command")), puts(1, 5, 1, 2, "b"), opens(1, 6), puts(1, 7, 6, 1, "c")}
	step(t, n, appends(1, 0, 1, 0, 0, 0, 1, l...))
	wantLooks(t, n, raft.Follows, 1, 1, 0, 0, 7)
	for commit, want := range [][]string{{}, {}, {"a"}, {"a"}, {"a"}, {"a"}, {"a"}, {"a", "c"}} {
		step(t, n, appends(1, 0, 1, 7, 1, commit, 2))
		wantLooks(t, n, raft.Follows, 1, 1, commit, 0, 7)
		wantRecords(t, n, want...)
	}
}

// P1606: two nodes that applied up to the same index have the same, whether by entries or by a snapshot.
func TestAlike(t *testing.T) {
	var l []api.Entry
	for i := 1; i <= 40; i++ {
		switch {
		case i%7 == 1:
			l = append(l, opens(1, i))
		case i%7 == 3:
			b, _ := machine.Trim(i / 10)
			l = append(l, command(1, i, b))
		default:
			l = append(l, puts(1, i, i-i%7+1, i/2, fmt.Sprint(i)))
		}
	}
	a, b := opened(t, usual, 0, []int{0, 1, 2}, newDisk(t)), opened(t, keeping(7), 2, []int{0, 1, 2}, newDisk(t))
	for i := range l {
		term := 1
		if i == 0 {
			term = 0
		}
		step(t, a, appends(1, 0, 1, i, term, i+1, 1, l[i]))
		if i < 20 {
			step(t, b, appends(1, 2, 1, i, term, i+1, 1, l[i]))
		}
	}
	step(t, b, whole(1, 2, 1, snapshot(t, []int{0, 1, 2}, l[:35]...), 1), appends(1, 2, 1, 35, 1, 40, 1, l[35:]...))
	if a.Applied() != 40 || b.Applied() != 40 || a.Next() != b.Next() {
		t.Fatalf("%s\n%s", looks(a), looks(b))
	}
	for from := range a.Next() + 2 {
		x, e := a.Read(from, highest)
		y, f := b.Read(from, highest)
		if e != f || !slices.EqualFunc(x, y, bytes.Equal) {
			t.Errorf("from %d: %s %d, %s %d", from, x, e, y, f)
		}
	}
	// Sessions are alike, if what is asked of them is answered alike.
	for i, n := range []*node.Node{a, b} {
		step(t, n, appends(1, 2*i, 1, 40, 1, 42, 1, puts(1, 41, 36, 19, "old"), puts(1, 42, 36, 99, "new")))
	}
	if a.Next() != b.Next() || a.Applied() != 42 || b.Applied() != 42 {
		t.Errorf("%s\n%s", looks(a), looks(b))
	}
}
