package node_test

import (
	"bytes"
	"fmt"
	"strings"
	"testing"

	"hustings/api"
	"hustings/machine"
	"hustings/message"
	"hustings/node"
	"hustings/raft"
	"hustings/seglog"
	"hustings/snaps"
	"hustings/stable"
	"hustings/vdisk"
	"hustings/wire"
)

const (
	highest = 1<<63 - 1
	lowest  = -1 << 63
)

// usual: a limit of 5 ticks (by the draw 0), a round every 2, pieces of 30 bytes; no snapshot for a long time.
var usual = node.Options{Least: 5, Beat: 2, Chunk: 30, Span: 1000, Keep: 1000}

func keeping(keep int) node.Options {
	o := usual
	o.Keep = keep
	return o
}

func newDisk(t *testing.T) *vdisk.Disk {
	t.Helper()
	d, e := vdisk.New(api.MaxBytes)
	if e != api.OK {
		t.Fatal(e)
	}
	return d
}

func opened(t *testing.T, o node.Options, id int, servers []int, d *vdisk.Disk) *node.Node {
	t.Helper()
	n, e := node.Open(o, id, servers, d, 0)
	if e != api.OK || n == nil {
		t.Fatalf("Open: %v, error %d", n, e)
	}
	return n
}

func tick(t *testing.T, n *node.Node, times int) {
	t.Helper()
	for range times {
		wantErr(t, "Tick", n.Tick(0), api.OK)
	}
}

// step: messages arrive.
func step(t *testing.T, n *node.Node, l ...message.Message) {
	t.Helper()
	for _, m := range l {
		wantErr(t, letter(m), n.Step(put(t, m), 0), api.OK)
	}
}

func put(t *testing.T, m message.Message) []byte {
	t.Helper()
	b, e := message.Put(m)
	if e != api.OK {
		t.Fatalf("%s: error %d", letter(m), e)
	}
	return b
}

// alone: the only server, who leads in the term 1 with one entry that is applied.
func alone(t *testing.T, o node.Options, d *vdisk.Disk) *node.Node {
	t.Helper()
	n := opened(t, o, 0, []int{0}, d)
	tick(t, n, 5)
	if n.Role() != raft.Leads {
		t.Fatal(looks(n))
	}
	return n
}

// elect: it stands, and all others vote for it.
func elect(t *testing.T, n *node.Node) {
	t.Helper()
	id := n.ID()
	for range 2000 {
		tick(t, n, 1)
		if n.Role() != raft.Follows {
			break
		}
	}
	for _, trial := range []int{1, 0} {
		for _, other := range n.Servers() {
			if other != id && n.Role() != raft.Leads {
				step(t, n, message.Message{Kind: message.Vote, From: other, To: id, Term: n.Term() + trial, C: trial, Yes: true})
			}
		}
	}
	if n.Role() != raft.Leads {
		t.Fatalf("all voted for it, but %s", looks(n))
	}
}

// leading: the server 0 of three, who leads in the term 1; its first entry is committed, and all it told was asked.
func leading(t *testing.T, o node.Options, d *vdisk.Disk) *node.Node {
	t.Helper()
	n := opened(t, o, 0, []int{0, 1, 2}, d)
	elect(t, n)
	agree(t, n)
	n.Messages()
	return n
}

// agree: the server 1 has all that the leader has, in its last round.
func agree(t *testing.T, n *node.Node) {
	t.Helper()
	round := 0
	for _, m := range letters(t, n) {
		round = max(round, m.D)
	}
	step(t, n, got(1, n.ID(), n.Term(), n.Last(), round, true))
}

func letters(t *testing.T, n *node.Node) []message.Message {
	t.Helper()
	var l []message.Message
	for _, b := range n.Messages() {
		m, e := message.Get(b)
		if e != api.OK {
			t.Fatalf("%x is no message", b)
		}
		l = append(l, m)
	}
	return l
}

func none(term, index int) api.Entry {
	return api.Entry{Term: term, Index: index, Kind: api.Nothing}
}

func command(term, index int, data []byte) api.Entry {
	return api.Entry{Term: term, Index: index, Kind: api.Command, Data: data}
}

func listed(term, index int, servers ...int) api.Entry {
	b, _ := wire.PutServers(servers)
	return api.Entry{Term: term, Index: index, Kind: api.Servers, Data: b}
}

func opens(term, index int) api.Entry { return command(term, index, machine.Open()) }

func puts(term, index, session, seq int, text string) api.Entry {
	b, _ := machine.Put(session, seq, []byte(text))
	return command(term, index, b)
}

func appends(from, to, term, a, b, c, d int, l ...api.Entry) message.Message {
	return message.Message{Kind: message.Append, From: from, To: to, Term: term, A: a, B: b, C: c, D: d, Entries: l}
}

func got(from, to, term, a, d int, yes bool) message.Message {
	return message.Message{Kind: message.Got, From: from, To: to, Term: term, A: a, D: d, Yes: yes}
}

func have(from, to, term, a, d int, yes bool) message.Message {
	return message.Message{Kind: message.Have, From: from, To: to, Term: term, A: a, D: d, Yes: yes}
}

// whole: a Snapshot in one piece.
func whole(from, to, term int, s snaps.Snapshot, d int) message.Message {
	return message.Message{Kind: message.Snap, From: from, To: to, Term: term, A: s.Index, B: s.Term, D: d, Yes: true, Servers: s.Servers, Data: s.Data}
}

// saved: the bytes of a machine that applied these entries.
func saved(t *testing.T, l ...api.Entry) []byte {
	t.Helper()
	m, _ := machine.New(usual.Span)
	for _, x := range l {
		if x.Kind != api.Command {
			continue
		}
		if _, e := m.Apply(x.Index, x.Data); e != api.OK {
			t.Fatal(e)
		}
	}
	return m.Save()
}

// snapshot: of these entries, which begin with the first one.
func snapshot(t *testing.T, servers []int, l ...api.Entry) snaps.Snapshot {
	t.Helper()
	last := l[len(l)-1]
	return snaps.Snapshot{Index: last.Index, Term: last.Term, Servers: servers, Data: saved(t, l...)}
}

// lay: entries on a disk, behind a base (0: none), and a vote.
func lay(t *testing.T, d *vdisk.Disk, v stable.Vote, base, term int, l ...api.Entry) {
	t.Helper()
	log, e := seglog.Open(d)
	wantErr(t, "Open of a log", e, api.OK)
	if base > 0 {
		wantErr(t, "Rebase", log.Rebase(base, term), api.OK)
	}
	if len(l) > 0 {
		wantErr(t, "Append", log.Append(l...), api.OK)
	}
	wantErr(t, "Sync", log.Sync(), api.OK)
	wantErr(t, "Save", stable.Save(d, v), api.OK)
}

func wantErr(t *testing.T, what string, e, want api.Errno) {
	t.Helper()
	if e != want {
		t.Fatalf("%s: error %d, not %d", what, e, want)
	}
}

func one(x api.Entry) string {
	return fmt.Sprintf("%d/%d/%d<%x>", x.Index, x.Term, x.Kind, x.Data)
}

func row(l []api.Entry) string {
	var s []string
	for _, x := range l {
		s = append(s, one(x))
	}
	return strings.Join(s, " ")
}

func letter(m message.Message) string {
	kind := "?"
	if m.Kind >= 1 && m.Kind <= 6 {
		kind = []string{"", "Ask", "Vote", "Append", "Got", "Snap", "Have"}[m.Kind]
	}
	return fmt.Sprintf("%s %d>%d term %d: %d %d %d %d %v [%s] %v <%x>", kind, m.From, m.To, m.Term, m.A, m.B, m.C, m.D, m.Yes, row(m.Entries), m.Servers, m.Data)
}

func wantLetters(t *testing.T, n *node.Node, want ...message.Message) {
	t.Helper()
	l := letters(t, n)
	for i := range max(len(l), len(want)) {
		a, b := "nothing", "nothing"
		if i < len(l) {
			a = letter(l[i])
		}
		if i < len(want) {
			b = letter(want[i])
		}
		if a != b {
			t.Fatalf("message %d of %d:\n%s\nnot\n%s", i, len(l), a, b)
		}
	}
}

func said(l []node.Answer) string {
	var s []string
	for _, a := range l {
		s = append(s, fmt.Sprintf("%d: error %d session %d number %d <%s> leader %d", a.ID, a.E, a.Session, a.Number, bytes.Join(a.Records, []byte("|")), a.Leader))
	}
	return strings.Join(s, "\n")
}

func wantAnswers(t *testing.T, n *node.Node, want ...node.Answer) {
	t.Helper()
	if l := n.Answers(); said(l) != said(want) {
		t.Fatalf("answers:\n%s\nnot\n%s", said(l), said(want))
	}
}

// ask: what is asked is taken.
func ask(t *testing.T, n *node.Node, l ...node.Ask) {
	t.Helper()
	for _, a := range l {
		wantErr(t, fmt.Sprintf("Ask %d", a.ID), n.Ask(a), api.OK)
	}
}

// looks: all that can be seen of a node without changing it.
func looks(n *node.Node) string {
	v := n.View()
	records, e := n.Read(0, highest)
	return fmt.Sprintf("down %v role %d term %d leader %d vote %v applied %d base %d last %d servers %v next %d <%s> %d view %d/%d [%s]",
		n.Down(), n.Role(), n.Term(), n.Leader(), n.Vote(), n.Applied(), n.Base(), n.Last(), n.Servers(), n.Next(), bytes.Join(records, []byte("|")), e, v.Base, v.Term, row(v.L))
}

func wantLooks(t *testing.T, n *node.Node, role, term, leader, applied, base, last int) {
	t.Helper()
	if n.Role() != role || n.Term() != term || n.Leader() != leader || n.Applied() != applied || n.Base() != base || n.Last() != last {
		t.Fatalf("%s\nnot role %d term %d leader %d applied %d base %d last %d", looks(n), role, term, leader, applied, base, last)
	}
}

func wantRecords(t *testing.T, n *node.Node, want ...string) {
	t.Helper()
	l, e := n.Read(0, highest)
	if e != api.OK || string(bytes.Join(l, []byte("|"))) != strings.Join(want, "|") || n.Next() != len(want) {
		t.Fatalf("records <%s>, error %d, next %d, not %v", l, e, n.Next(), want)
	}
}

// files: all that is on a disk.
func files(d *vdisk.Disk) string {
	var s []string
	for _, name := range d.List() {
		b, _ := d.Read(name)
		s = append(s, fmt.Sprintf("%s=%x", name, b))
	}
	return strings.Join(s, " ")
}

// wantDisk: the vote, the snapshot's index and the log that a disk tells.
func wantDisk(t *testing.T, d *vdisk.Disk, v stable.Vote, snap, base int, l ...api.Entry) {
	t.Helper()
	vote, e := stable.Load(d)
	wantErr(t, "vote", e, api.OK)
	s, _, e := snaps.Load(d)
	wantErr(t, "snapshot", e, api.OK)
	log, e := seglog.Open(d)
	wantErr(t, "log", e, api.OK)
	b, _ := log.Base()
	if vote != v || s.Index != snap || b != base || row(log.Entries(0, highest)) != row(l) {
		t.Fatalf("vote %v, snapshot %d, log %d [%s], not %v, %d, %d [%s]", vote, s.Index, b, row(log.Entries(0, highest)), v, snap, base, row(l))
	}
}
