package node

import (
	"hustings/api"
	"hustings/entries"
	"hustings/machine"
	"hustings/message"
	"hustings/raft"
	"hustings/snaps"
	"hustings/stable"
)

// maxSave: bytes of a machine that a snapshot can hold.
const maxSave = 60000

// work: does what the raft tells, as long as it tells something. A step that fails gives up all of it, and the node is down.
func (n *Node) work() {
	defer func() {
		if recover() != nil {
			n.halt()
		}
	}()
	for w := n.Out(); n.isNews(w); w = n.Out() {
		n.do(w)
	}
}

// must: gives up, unless a step was done.
func must(e api.Errno) {
	if e != api.OK {
		panic("a step that was not done")
	}
}

// halt: what is not told yet never is, for it may not last.
func (n *Node) halt() {
	n.down = true
	n.messages, n.answers = nil, nil
	n.waits, n.reads = nil, nil
}

// isNews: is there something to be done?
func (n *Node) isNews(w raft.Work) bool {
	return voteOf(w) != n.vote || w.Commit > n.applied ||
		len(w.Ops)+len(w.Messages)+len(w.Ready)+len(w.Lost) > 0
}

// do: all that must last ahead of all that is told.
func (n *Node) do(w raft.Work) {
	n.save(voteOf(w))
	n.write(w.Ops)
	n.tell(w.Messages)
	before := n.applied
	n.apply(w.Commit)
	for _, r := range w.Ready {
		n.answerRead(r.ID)
	}
	for _, id := range w.Lost {
		n.loseRead(id)
	}
	// Without an entry more there is nothing that a snapshot would not have held before.
	if n.applied > before {
		n.compact()
	}
}

func voteOf(w raft.Work) stable.Vote {
	return stable.Vote{Term: w.Term, For: w.For}
}

func (n *Node) save(v stable.Vote) {
	if v == n.vote {
		return
	}
	must(stable.Save(n.disk, v))
	n.vote = v
}

// write: what befell the raft's log, in the log on the disk.
func (n *Node) write(ops []raft.Op) {
	for _, o := range ops {
		if o.Snap != nil {
			n.install(*o.Snap)
			continue
		}
		if o.Cut != 0 {
			must(n.log.Cut(o.Cut))
		}
		if len(o.Add) > 0 {
			must(n.log.Append(o.Add...))
		}
	}
	if len(ops) > 0 {
		must(n.log.Sync())
	}
}

// install: a leader's snapshot takes the place of what was applied here.
func (n *Node) install(s snaps.Snapshot) {
	must(snaps.Save(n.disk, s))
	must(n.log.Rebase(s.Index, s.Term))
	m, e := machine.Restore(n.options.Span, s.Data)
	must(e)
	n.machine, n.applied = m, s.Index
	n.passOver(s.Index)
}

func (n *Node) tell(l []message.Message) {
	for _, m := range l {
		b, e := message.Put(m)
		must(e)
		n.messages = append(n.messages, b)
	}
}

// apply: the entries up to what is committed, which the log has.
func (n *Node) apply(to int) {
	for _, x := range n.log.Entries(n.applied+1, to-n.applied) {
		n.applied = x.Index
		n.settle(x, n.run(x))
	}
}

// run: an entry, if it is the machine's. What the machine itself refuses, because a snapshot says that it is further, is an outcome too.
func (n *Node) run(x api.Entry) machine.Result {
	if x.Kind != api.Command {
		return machine.Result{}
	}
	r, e := n.machine.Apply(x.Index, x.Data)
	if e != api.OK {
		return machine.Result{E: e}
	}
	return r
}

// compact: where enough was applied, a snapshot stands for it.
func (n *Node) compact() {
	base, _ := n.log.Base()
	if n.applied-base < n.options.Keep {
		return
	}
	s := n.snapshot()
	if !mayHold(s) {
		return
	}
	must(snaps.Save(n.disk, s))
	must(n.Compact(s))
	must(n.log.Rebase(s.Index, s.Term))
}

// snapshot: of what was applied.
func (n *Node) snapshot() snaps.Snapshot {
	term, _ := n.log.Term(n.applied)
	return snaps.Snapshot{Index: n.applied, Term: term, Servers: n.ServersAt(n.applied), Data: n.machine.Save()}
}

// mayHold: who was not told yet who the servers are has none to put into a snapshot, and where indexes end no base may be.
func mayHold(s snaps.Snapshot) bool {
	return len(s.Data) <= maxSave && len(s.Servers) > 0 && entries.Right(entries.View{Base: s.Index, Term: s.Term})
}
