package raft_test

import (
	"bytes"
	"fmt"
	"hash/crc32"
	"math/rand"
	"slices"
	"testing"

	"hustings/api"
	"hustings/entries"
	"hustings/message"
	"hustings/raft"
	"hustings/snaps"
)

// world: servers on disks that keep what each Out told, with messages between them that come late, twice, in any order, or never.
type world struct {
	t       *testing.T
	rnd     *rand.Rand
	options raft.Options
	rs      []*raft.Raft
	disks   []raft.Start
	net     []message.Message
	side    []int             // of a wall: what is sent passes between servers of one side
	leaders map[int]int       // by terms
	sure    map[int]api.Entry // by indexes: what was committed
	commits []int             // by servers, since they began
	most    int               // the highest index that is committed for some server
	asked   map[int]int       // by reads: what was committed when they were asked
	reads   int
	ready   int
	snaps   int
	cuts    int
	retired int
}

func newWorld(t *testing.T, seed int64, first, all int) *world {
	w := &world{t: t, rnd: rand.New(rand.NewSource(seed)), options: raft.Options{Least: 7, Beat: 1, Chunk: 7}, leaders: map[int]int{}, sure: map[int]api.Entry{}, asked: map[int]int{}}
	var servers []int
	for id := range first {
		servers = append(servers, id)
	}
	if seed%2 == 0 {
		w.options.Least = 3
	}
	for id := range all {
		s := raft.Start{ID: id, For: -1}
		if id < first {
			s.Servers = servers
		}
		w.disks = append(w.disks, s)
		w.rs = append(w.rs, nil)
		w.commits = append(w.commits, 0)
		w.side = append(w.side, 0)
		w.begin(id)
	}
	return w
}

// begin: a server comes back with what its disk has.
func (w *world) begin(id int) {
	w.t.Helper()
	r, e := raft.New(w.options, w.disks[id], w.rnd.Int())
	if e != api.OK {
		w.t.Fatalf("server %d does not come back: error %d", id, e)
	}
	w.rs[id] = r
	w.commits[id] = r.Commit()
}

// data: what a Snapshot of all up to an index holds: it hangs on all that was committed.
func (w *world) data(index int) []byte {
	sum := uint32(0)
	for i := 1; i <= index; i++ {
		sum = crc32.Update(sum, crc32.IEEETable, []byte(one(w.sure[i])))
	}
	return bytes.Repeat([]byte(fmt.Sprintf("%d:%x.", index, sum)), 1+index%3)
}

// work: what a server tells is done: first on its disk, then its messages are on their way.
func (w *world) work(id int) {
	w.t.Helper()
	r, d := w.rs[id], &w.disks[id]
	led := r.Role() == raft.Leads
	out := r.Out()
	if led && r.Role() == raft.Follows {
		w.retired++
	}
	if out.Term < d.Term || out.Term == d.Term && d.For != -1 && out.For != d.For {
		w.t.Fatalf("server %d: term %d and vote %d behind %d and %d", id, out.Term, out.For, d.Term, d.For)
	}
	d.Term, d.For = out.Term, out.For
	for _, o := range out.Ops {
		if o.Snap != nil && !bytes.Equal(o.Snap.Data, w.data(o.Snap.Index)) {
			w.t.Fatalf("a Snapshot of %d is <%s>, not <%s>", o.Snap.Index, o.Snap.Data, w.data(o.Snap.Index))
		}
		w.do(d, o)
	}
	if v := r.View(); !sameView(v, d.View) {
		w.t.Fatalf("server %d: its log is %d/%d [%s], but by what it told %d/%d [%s]", id, v.Base, v.Term, row(v.L), d.View.Base, d.View.Term, row(d.View.L))
	}
	w.checkCommit(id, out.Commit)
	for _, x := range out.Ready {
		w.ready++
		if before, there := w.asked[x.ID]; !there || x.Index < before {
			w.t.Fatalf("read %d is ready at %d, but %d was committed ahead of it", x.ID, x.Index, before)
		}
		delete(w.asked, x.ID)
	}
	for _, m := range out.Messages {
		if _, e := message.Put(m); e != api.OK || m.From != id || m.To == id || m.To >= len(w.rs) {
			w.t.Fatalf("a message that may not be: %s", letter(m))
		}
		if w.side[m.From] == w.side[m.To] {
			w.net = append(w.net, m)
		}
	}
	if r.Role() == raft.Leads {
		if other, led := w.leaders[r.Term()]; led && other != id {
			w.t.Fatalf("%d and %d lead in the term %d", other, id, r.Term())
		}
		w.leaders[r.Term()] = id
	}
}

// do: an Op on a disk, by the words of the chapter alone.
func (w *world) do(d *raft.Start, o raft.Op) {
	if o.Snap != nil {
		w.snaps++
		w.rebase(d, *o.Snap)
		return
	}
	if o.Cut != 0 {
		w.cuts++
		d.View.L = slices.Clone(d.View.L[:o.Cut-d.View.Base-1])
	}
	d.View.L = append(d.View.L, o.Add...)
}

func (w *world) rebase(d *raft.Start, s snaps.Snapshot) {
	var stay []api.Entry
	if k := s.Index - d.View.Base - 1; k < len(d.View.L) && d.View.L[k].Term == s.Term {
		stay = slices.Clone(d.View.L[k+1:])
	}
	d.View = entries.View{Base: s.Index, Term: s.Term, L: stay}
	d.Servers, d.Snap = s.Servers, s
}

// checkCommit: what is committed at an index is one entry, for all, and never less than it was.
func (w *world) checkCommit(id, commit int) {
	v := w.rs[id].View()
	if commit != w.rs[id].Commit() || commit < w.commits[id] || commit < v.Base || commit > v.Base+len(v.L) {
		w.t.Fatalf("server %d: %d is committed, was %d, log from %d to %d", id, commit, w.commits[id], v.Base, v.Base+len(v.L))
	}
	for _, x := range v.L[:commit-v.Base] {
		if was, there := w.sure[x.Index]; there && !sameEntry(was, x) {
			w.t.Fatalf("server %d: %s is committed, but was %s", id, one(x), one(was))
		}
		w.sure[x.Index] = x
	}
	w.commits[id] = commit
	w.most = max(w.most, commit)
}

func sameEntry(a, b api.Entry) bool {
	return a.Term == b.Term && a.Index == b.Index && a.Kind == b.Kind && bytes.Equal(a.Data, b.Data)
}

func sameView(a, b entries.View) bool {
	return a.Base == b.Base && a.Term == b.Term && slices.EqualFunc(a.L, b.L, sameEntry)
}

// checkLogs: where two logs have an entry of one index and term, they have the same entries up to it.
func (w *world) checkLogs() {
	for a := range w.rs {
		for b := range a {
			x, y := w.disks[a].View, w.disks[b].View
			from := max(x.Base, y.Base) + 1
			same := false
			for i := min(x.Base+len(x.L), y.Base+len(y.L)); i >= from; i-- {
				p, q := x.L[i-x.Base-1], y.L[i-y.Base-1]
				same = same || p.Term == q.Term
				if same && !sameEntry(p, q) {
					w.t.Fatalf("%d and %d differ at %d: [%s] [%s]", a, b, i, row(x.L), row(y.L))
				}
			}
		}
	}
}

// compact: a Snapshot of a part of what is committed.
func (w *world) compact(id int) {
	r, d := w.rs[id], &w.disks[id]
	v := r.View()
	n := r.Commit() - v.Base
	if n == 0 {
		return
	}
	k := w.rnd.Intn(n)
	s := snaps.Snapshot{Index: v.L[k].Index, Term: v.L[k].Term, Servers: r.ServersAt(v.L[k].Index)}
	s.Data = w.data(s.Index)
	switch e := r.Compact(s); {
	case e == api.ErrArg && len(s.Servers) == 0: // it does not know yet who the servers are
	case e != api.OK:
		w.t.Fatalf("server %d: Compact(%d): error %d", id, s.Index, e)
	default:
		w.rebase(d, s)
	}
}

// deliver: the kth message arrives.
func (w *world) deliver(k, draw int) {
	m := w.net[k]
	w.net = slices.Delete(w.net, k, k+1)
	if w.side[m.From] != w.side[m.To] {
		return
	}
	if e := w.rs[m.To].Step(m, draw); e != api.OK {
		w.t.Fatalf("%s: error %d", letter(m), e)
	}
	w.work(m.To)
}

// storm: what ends a lead: a wall, or none any more, or a crash, or messages that are lost, a leader that goes on alone, or a long silence for somebody.
func (w *world) storm() {
	id := w.rnd.Intn(len(w.rs))
	switch w.rnd.Intn(8) {
	case 0:
		clear(w.side)
	case 1:
		for id := range w.side {
			w.side[id] = w.rnd.Intn(2)
		}
	case 2:
		w.side[id] = 2
	case 3:
		w.begin(id)
		w.work(id)
	case 4:
		w.net = w.net[w.rnd.Intn(len(w.net)+1):]
	case 5:
		if r := w.leads(); r != nil {
			w.side[r.ID()] = 2
			r.Propose([]byte("alone"))
			r.Propose(nil)
			w.work(r.ID())
		}
	default:
		for range 2 * w.options.Least {
			w.rs[id].Tick(w.rnd.Int())
			w.work(id)
		}
	}
}

// befall: one thing, by chance.
func (w *world) befall() {
	id := w.rnd.Intn(len(w.rs))
	r := w.rs[id]
	switch n := w.rnd.Intn(100); {
	case n < 30:
		r.Tick(w.rnd.Int() - w.rnd.Int())
	case n < 80 && len(w.net) > 0:
		w.deliver(w.rnd.Intn(min(len(w.net), 12)), w.rnd.Int())
	case n < 82 && len(w.net) > 0:
		w.net = append(w.net, w.net[w.rnd.Intn(len(w.net))])
	case n < 84 && len(w.net) > 0:
		w.net = slices.Delete(w.net, 0, 1)
	case n < 90:
		r.Propose([]byte{byte(w.rnd.Intn(256))})
	case n < 92:
		r.Change(w.rnd.Intn(2) == 0, w.rnd.Intn(len(w.rs)))
	case n < 95:
		w.reads++
		if r.Read(w.reads) == api.OK {
			w.asked[w.reads] = w.most
		}
	case n < 98:
		w.compact(id)
	}
	w.work(id)
}

// heal: all messages arrive, in order, and all tick; draws as it is told.
func (w *world) heal(rounds int, draw func(id int) int) {
	for range rounds {
		for n := 0; len(w.net) > 0 && n < 5000; n++ {
			w.deliver(0, draw(w.net[0].To))
		}
		for id := range w.rs {
			w.rs[id].Tick(draw(id))
			w.work(id)
		}
	}
}

// leads: who leads in the highest term.
func (w *world) leads() *raft.Raft {
	var best *raft.Raft
	for _, r := range w.rs {
		if r.Role() == raft.Leads && (best == nil || r.Term() > best.Term()) {
			best = r
		}
	}
	return best
}

// wantSettled: some server leads, what it is asked is committed, and all its servers have that.
func (w *world) wantSettled(draw func(id int) int) {
	w.t.Helper()
	w.heal(60, draw)
	r := w.leads()
	if r == nil {
		w.t.Fatal("nobody leads")
	}
	index, e := r.Propose([]byte("last"))
	if e != api.OK {
		w.t.Fatal(e)
	}
	w.heal(20, draw)
	if r.Role() != raft.Leads || r.Commit() < index {
		w.t.Fatalf("%d is not committed: %s", index, looks(r))
	}
	for _, id := range r.Servers() {
		other := w.rs[id]
		if other.Commit() != r.Commit() || other.Leader() != r.ID() || other.Term() != r.Term() || len(other.Servers()) != len(r.Servers()) {
			w.t.Fatalf("%s\nbut its leader %s", looks(other), looks(r))
		}
	}
	w.checkLogs()
}
