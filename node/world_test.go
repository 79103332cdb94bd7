package node_test

import (
	"bytes"
	"fmt"
	"maps"
	"math/rand"
	"slices"
	"testing"

	"hustings/api"
	"hustings/entries"
	"hustings/message"
	"hustings/node"
	"hustings/raft"
	"hustings/snaps"
	"hustings/vdisk"
)

// promise: what a node told, and so must have.
type promise struct {
	term  int               // the highest one of its messages
	votes map[int]int       // by terms: whom it told that it votes for
	has   map[int]api.Entry // by indexes: what it told to have
}

// asked: what waits for an answer: of a put its session and seq, of a get what was told ahead of it.
type asked struct {
	node.Ask
	least int
}

// world: nodes on disks whose power goes at any change, with letters between them that come late, twice, in any order, or never.
type world struct {
	t         *testing.T
	rnd       *rand.Rand
	options   node.Options
	servers   []int
	nodes     []*node.Node
	disks     []*vdisk.Disk
	promises  []promise
	net       [][]byte
	storms    int            // of a hundred steps
	side      []int          // of a wall: what is sent passes between nodes of one side
	records   map[int]string // by what was applied: the records
	snapshots map[int]string // by indexes
	waiting   map[int]asked  // by IDs
	numbers   map[[2]int]int // by session and seq: the record's number
	sessions  []int
	last      int // ID
	most      int // records that were told
	crashes   int
	compacted int
	installed int
	got       int
}

func newWorld(t *testing.T, seed int64, first, all int) *world {
	w := &world{t: t, storms: 1 + int(seed)%4, rnd: rand.New(rand.NewSource(seed)), records: map[int]string{}, snapshots: map[int]string{}, waiting: map[int]asked{}, numbers: map[[2]int]int{}}
	w.options = node.Options{Least: 7, Beat: 1, Chunk: 40, Span: 60, Keep: 2 + int(seed)%9}
	for id := range first {
		w.servers = append(w.servers, id)
	}
	for range all {
		w.nodes = append(w.nodes, nil)
		w.disks = append(w.disks, newDisk(t))
		w.promises = append(w.promises, promise{votes: map[int]int{}, has: map[int]api.Entry{}})
		w.side = append(w.side, 0)
	}
	for id := range all {
		w.open(id)
	}
	return w
}

// open: a node comes back, and has what it told. So it is also where the power goes within Open.
func (w *world) open(id int) {
	w.t.Helper()
	servers := w.servers
	if id >= len(servers) {
		servers = nil
	}
	if w.rnd.Intn(3) == 0 {
		w.disks[id].Cut(w.rnd.Intn(12))
	}
	n, e := node.Open(w.options, id, servers, w.disks[id], w.rnd.Int())
	if e == api.ErrPower {
		w.crash(id)
		n, e = node.Open(w.options, id, servers, w.disks[id], w.rnd.Int())
	}
	w.disks[id].Cut(-1)
	if e != api.OK {
		w.t.Fatalf("node %d does not come back: error %d", id, e)
	}
	w.nodes[id] = n
	w.checkPromise(id)
	w.checkState(id)
}

func (w *world) crash(id int) {
	var choices []int
	for range w.rnd.Intn(6) {
		choices = append(choices, w.rnd.Int())
	}
	w.disks[id].Crash(choices)
}

// checkPromise: P1605.
func (w *world) checkPromise(id int) {
	w.t.Helper()
	n, p := w.nodes[id], w.promises[id]
	if n.Term() < p.term {
		w.t.Fatalf("node %d told the term %d, but %s", id, p.term, looks(n))
	}
	if voted, told := p.votes[n.Term()]; told && n.Vote().For != voted {
		w.t.Fatalf("node %d told that it votes for %d, but %s", id, voted, looks(n))
	}
	v := n.View()
	for index, x := range p.has {
		if !has(v, x) {
			w.t.Fatalf("node %d told to have %d, but %s", id, index, looks(n))
		}
	}
}

// has: does a log have an entry, or stand its base for it?
func has(v entries.View, x api.Entry) bool {
	place := x.Index - v.Base - 1
	return place < 0 || place < len(v.L) && one(v.L[place]) == one(x)
}

// cut: what a leader cut is promised no more; nor what may have been cut when the power went.
func (w *world) cut(id int) {
	v := w.nodes[id].View()
	least := highest
	for index, x := range w.promises[id].has {
		if !has(v, x) {
			least = min(least, index)
		}
	}
	maps.DeleteFunc(w.promises[id].has, func(index int, _ api.Entry) bool { return index >= least })
}

// note: what a message tells of the node that sends it. Those of a trial bear a term that is not the sender's yet.
func (w *world) note(id int, m message.Message) {
	p := &w.promises[id]
	if (m.Kind == message.Ask || m.Kind == message.Vote) && m.C == 1 {
		return
	}
	p.term = max(p.term, m.Term)
	switch {
	case m.Kind == message.Ask:
		p.votes[m.Term] = id
	case m.Kind == message.Vote && m.Yes:
		p.votes[m.Term] = m.To
	case m.Kind == message.Got && m.Yes, m.Kind == message.Have && m.Yes:
		for _, x := range w.nodes[id].View().L {
			if x.Index <= m.A {
				p.has[x.Index] = x
			}
		}
	}
}

// checkState: P1606: what was applied up to an index is the same for all, in records and, by their snapshots, in sessions.
func (w *world) checkState(id int) {
	w.t.Helper()
	n := w.nodes[id]
	l, e := n.Read(0, highest)
	state := fmt.Sprintf("%d <%s>", n.Next(), bytes.Join(l, []byte("|")))
	if e != api.OK {
		w.t.Fatalf("node %d: Read: error %d", id, e)
	}
	if other, there := w.records[n.Applied()]; there && other != state {
		w.t.Fatalf("node %d: at %d %s, but for another one %s", id, n.Applied(), state, other)
	}
	w.records[n.Applied()] = state
	s, _, _ := snaps.Load(w.disks[id])
	b := fmt.Sprintf("%d %v %x", s.Term, s.Servers, s.Data)
	if other, there := w.snapshots[s.Index]; there && other != b {
		w.t.Fatalf("node %d: the snapshot %d is %s, but another one's %s", id, s.Index, b, other)
	}
	w.snapshots[s.Index] = b
	if n.Applied() < n.Base() || n.Applied() > n.Last() || n.Commit() != n.Applied() {
		w.t.Fatalf("node %d: %s", id, looks(n))
	}
}

// work: behind each call of a node: it is down, and crashes, or what it tells is on its way.
func (w *world) work(id int) {
	w.t.Helper()
	n := w.nodes[id]
	w.cut(id)
	if n.Down() {
		w.crashes++
		if len(n.Messages()) != 0 || len(n.Answers()) != 0 {
			w.t.Fatalf("node %d is down, but tells something", id)
		}
		w.restart(id)
		return
	}
	w.checkState(id)
	for _, b := range n.Messages() {
		m, e := message.Get(b)
		if e != api.OK || m.From != id {
			w.t.Fatalf("%x: error %d", b, e)
		}
		w.note(id, m)
		if m.To < len(w.nodes) && w.side[id] == w.side[m.To] {
			w.net = append(w.net, b)
		}
	}
	for _, a := range n.Answers() {
		w.heard(id, a)
	}
}

// restart: a crash, and nobody who asked is answered any more.
func (w *world) restart(id int) {
	w.t.Helper()
	old, before := w.nodes[id], ""
	if old.Down() {
		before = files(w.disks[id])
		wantErr(w.t, "Tick", old.Tick(0), api.ErrDown)
		if files(w.disks[id]) != before {
			w.t.Fatalf("node %d is down, but changes its disk", id)
		}
	}
	w.crash(id)
	w.open(id)
	maps.DeleteFunc(w.waiting, func(_ int, a asked) bool { return a.ID%len(w.nodes) == id })
}

// ask: a node, with an ID that tells which.
func (w *world) ask(id int, a node.Ask) {
	w.t.Helper()
	w.last++
	a.ID = w.last*len(w.nodes) + id
	w.waiting[a.ID] = asked{a, w.most}
	wantErr(w.t, "Ask", w.nodes[id].Ask(a), api.OK)
	w.work(id)
}

// heard: an answer: each put counts once, and a get tells all that was told ahead of it.
func (w *world) heard(id int, a node.Answer) {
	w.t.Helper()
	asked, there := w.waiting[a.ID]
	if !there || a.ID%len(w.nodes) != id {
		w.t.Fatalf("node %d answers what nobody asked: %s", id, said([]node.Answer{a}))
	}
	delete(w.waiting, a.ID)
	if a.E != api.OK {
		return
	}
	switch asked.Kind {
	case node.OpenSession:
		w.sessions = append(w.sessions, a.Session)
	case node.Put:
		key := [2]int{asked.Session, asked.Seq}
		if number, there := w.numbers[key]; there && number != a.Number {
			w.t.Fatalf("the put %v is the record %d, and the record %d", key, number, a.Number)
		}
		w.numbers[key] = a.Number
		w.most = max(w.most, a.Number+1)
	case node.Get:
		w.got++
		if a.Number < asked.least || len(a.Records) != a.Number {
			w.t.Fatalf("%d records were told, but %s", asked.least, said([]node.Answer{a}))
		}
		w.most = max(w.most, a.Number)
		for key, number := range w.numbers {
			if number < a.Number && string(a.Records[number]) != fmt.Sprint(key) {
				w.t.Fatalf("the record %d is <%s>, not of %v", number, a.Records[number], key)
			}
		}
	}
}

func (w *world) deliver(k, draw int) {
	w.t.Helper()
	b := w.net[k]
	w.net = slices.Delete(w.net, k, k+1)
	m, _ := message.Get(b)
	if w.side[m.From] != w.side[m.To] {
		return
	}
	base := w.nodes[m.To].Base()
	wantErr(w.t, letter(m), w.nodes[m.To].Step(b, draw), api.OK)
	if m.Kind == message.Snap && w.nodes[m.To].Base() > base {
		w.installed++
	}
	w.work(m.To)
}

// some: one of the puts that may be asked, also again.
func (w *world) some() node.Ask {
	if len(w.sessions) == 0 || w.rnd.Intn(12) == 0 {
		return node.Ask{Kind: node.OpenSession}
	}
	s := w.sessions[max(0, len(w.sessions)-1-w.rnd.Intn(3))]
	seq := 1 + w.last/10 - w.rnd.Intn(2)
	return node.Ask{Kind: node.Put, Session: s, Seq: max(seq, 1), Data: []byte(fmt.Sprint([2]int{s, max(seq, 1)}))}
}

// befall: one thing, by chance.
func (w *world) befall() {
	w.t.Helper()
	id := w.rnd.Intn(len(w.nodes))
	switch n := w.rnd.Intn(100); {
	case n < 30:
		wantErr(w.t, "Tick", w.nodes[id].Tick(w.rnd.Int()-w.rnd.Int()), api.OK)
		w.work(id)
	case n < 75 && len(w.net) > 0:
		w.deliver(w.rnd.Intn(min(len(w.net), 12)), w.rnd.Int())
	case n < 77 && len(w.net) > 0:
		w.net = append(w.net, w.net[w.rnd.Intn(len(w.net))])
	case n < 79 && len(w.net) > 0:
		w.net = slices.Delete(w.net, 0, 1)
	case n < 90:
		if l := w.leader(); l >= 0 && w.rnd.Intn(4) > 0 {
			id = l
		}
		w.ask(id, w.some())
	case n < 95:
		w.ask(id, node.Ask{Kind: node.Get, Most: highest})
	case n < 98:
		w.ask(id, node.Ask{Kind: node.Add + w.rnd.Intn(2), From: w.rnd.Intn(len(w.nodes))})
	default:
		w.disks[id].Cut(w.rnd.Intn(25))
	}
	if w.rnd.Intn(100) < w.storms {
		w.storm(id)
	}
}

// storm: a wall, or none any more, or a crash, or a leader that goes on alone.
func (w *world) storm(id int) {
	switch w.rnd.Intn(4) {
	case 0:
		clear(w.side)
	case 1:
		for id := range w.side {
			w.side[id] = w.rnd.Intn(2)
		}
	case 2:
		w.restart(id)
	case 3:
		if l := w.leader(); l >= 0 {
			w.side[l] = 2
			w.ask(l, w.some())
			w.ask(l, w.some())
		}
	}
}

// leader: who leads in the highest term; -1, if nobody does.
func (w *world) leader() int {
	best := -1
	for id, n := range w.nodes {
		if n.Role() == raft.Leads && (best < 0 || n.Term() > w.nodes[best].Term()) {
			best = id
		}
	}
	return best
}

// heal: all letters arrive, in order, and all tick.
func (w *world) heal(rounds int) {
	w.t.Helper()
	clear(w.side)
	for id, d := range w.disks {
		d.Cut(-1)
		if d.Down() {
			w.restart(id)
		}
	}
	for range rounds {
		for k := 0; len(w.net) > 0 && k < 5000; k++ {
			w.deliver(0, w.rnd.Int())
		}
		for id, n := range w.nodes {
			wantErr(w.t, "Tick", n.Tick(w.rnd.Int()), api.OK)
			w.work(id)
		}
	}
}

// wantSettled: some node leads, what it is asked is answered, and all its servers have the same.
func (w *world) wantSettled() {
	w.t.Helper()
	w.heal(80)
	l := w.leader()
	if l < 0 {
		w.t.Fatal("nobody leads")
	}
	w.ask(l, node.Ask{Kind: node.OpenSession})
	w.ask(l, node.Ask{Kind: node.Get, Most: highest})
	w.heal(20)
	n := w.nodes[l]
	for id := range w.waiting {
		if id%len(w.nodes) == l && id > (w.last-2)*len(w.nodes) {
			w.t.Fatalf("%d waits still: %s", id, looks(n))
		}
	}
	for _, id := range n.Servers() {
		if o := w.nodes[id]; o.Applied() != n.Applied() || o.Leader() != l || o.Term() != n.Term() || !slices.Equal(o.Servers(), n.Servers()) {
			w.t.Fatalf("%s\nbut its leader %s", looks(o), looks(n))
		}
	}
	for _, n := range w.nodes {
		w.compacted += n.Base()
	}
}

// P1605, P1606, P1607: whatever befalls, a node comes back with what it told, and what is applied is the same for all; so puts count once, and gets tell nothing old. In the end all is answered.
func TestChance(t *testing.T) {
	most, crashes, compacted, installed, got := 0, 0, 0, 0, 0
	for seed := range int64(60) {
		first := 1 + int(seed)%5
		w := newWorld(t, seed, first, first+int(seed)%3)
		for range 700 {
			w.befall()
		}
		w.wantSettled()
		most, crashes, compacted, installed, got = most+w.most, crashes+w.crashes, compacted+w.compacted, installed+w.installed, got+w.got
	}
	if most < 300 || crashes < 150 || compacted < 1000 || installed < 30 || got < 100 {
		t.Errorf("too little befell: %d records, %d crashes, %d compacted, %d installed, %d reads", most, crashes, compacted, installed, got)
	}
}

// P1601, P10: any bytes, asks and draws, in any order, are answered, and its disk is such that it comes back.
func TestAnything(t *testing.T) {
	for seed := range int64(40) {
		rnd := rand.New(rand.NewSource(seed))
		odd := func() int {
			return []int{0, 1, 2, 3, 5, 8, 20, 1 << 39, 1<<39 + 1, 1 << 40, -1, lowest, highest}[rnd.Intn(13)]
		}
		d := newDisk(t)
		n := opened(t, keeping(3), 0, []int{0, 1, 2}, d)
		for step := range 400 {
			before := looks(n)
			e := anything(n, rnd, odd, 1+step/40)
			if n.Down() {
				d.Crash(nil)
				m, e := node.Open(keeping(3), 0, []int{0, 1, 2}, d, odd())
				if e == api.ErrForm {
					break // a snapshot came that was no machine
				}
				wantErr(t, "Open", e, api.OK)
				n = m
				continue
			}
			if e != api.OK && looks(n) != before {
				t.Fatalf("error %d, but %s\nwas %s", e, looks(n), before)
			}
			for _, b := range n.Messages() {
				if _, e := message.Get(b); e != api.OK {
					t.Fatalf("%x is no message", b)
				}
			}
			if rnd.Intn(20) == 0 {
				m := opened(t, keeping(3), 0, []int{0, 1, 2}, d)
				if m.Last() != n.Last() || m.Base() != n.Base() || m.Term() != n.Term() || m.Vote() != n.Vote() {
					t.Fatalf("%s\ncame back as\n%s", looks(n), looks(m))
				}
				n = m
			}
		}
	}
}

// anything: a call, by chance; messages of about that term.
func anything(n *node.Node, rnd *rand.Rand, odd func() int, term int) api.Errno {
	small := func() int { return rnd.Intn(6) }
	switch rnd.Intn(8) {
	case 0:
		return n.Tick(odd())
	case 1:
		return n.Ask(node.Ask{ID: rnd.Intn(20), Kind: rnd.Intn(8), Session: small(), Seq: small(), From: odd(), Most: odd(), Data: make([]byte, rnd.Intn(2)*1025)})
	case 2:
		b := make([]byte, rnd.Intn(20))
		rnd.Read(b)
		return n.Step(b, odd())
	}
	m := message.Message{Kind: 1 + rnd.Intn(6), From: rnd.Intn(3), To: rnd.Intn(8) / 7, Term: term + rnd.Intn(3), A: small(), B: small(), C: small(), D: small(), Yes: rnd.Intn(2) == 0}
	switch m.Kind {
	case message.Append:
		for i := range rnd.Intn(9) {
			data := []byte{1, 1}
			if rnd.Intn(2) == 0 {
				data = []byte{1, 2, 1, byte(1 + small()), 1, byte(1 + small()), 0}
			}
			m.Entries = append(m.Entries, command(max(m.B, 1)+rnd.Intn(2)*rnd.Intn(2), m.A+1+i, data))
		}
	case message.Snap:
		m.Servers, m.Data = []int{0, 1 + rnd.Intn(3)}, []byte{0, 0, 0, 0}
		m.A = max(m.A, n.Applied()+rnd.Intn(3))
		m.C = 0
		if rnd.Intn(8) == 0 {
			m.Data = nil
		}
	}
	b, _ := message.Put(m)
	return n.Step(b, odd())
}
