package node

import (
	"maps"
	"slices"

	"hustings/api"
	"hustings/machine"
)

// wait: who asked for an entry, and the term of that entry: one of another term in its place is somebody else's.
type wait struct {
	id, term int
}

// read: what a Get asked for.
type read struct {
	from, most int
}

// mayAsk: may it be asked now?
func (n *Node) mayAsk(a Ask) bool {
	return a.ID > 0 && a.Kind >= OpenSession && a.Kind <= Drop && !n.awaits(a.ID)
}

// awaits: does somebody of that ID wait for an answer?
func (n *Node) awaits(id int) bool {
	if _, reads := n.reads[id]; reads {
		return true
	}
	for _, w := range n.waits {
		if w.id == id {
			return true
		}
	}
	return false
}

// begin: what is asked is on its way, and its answer waits; or why not.
func (n *Node) begin(a Ask) api.Errno {
	if a.Kind == Get {
		e := n.Raft.Read(a.ID)
		if e == api.OK {
			n.reads[a.ID] = read{from: a.From, most: a.Most}
		}
		return e
	}
	index, e := n.enter(a)
	if e == api.OK {
		n.dismiss(index, api.ErrLeader)
		n.waits[index] = wait{id: a.ID, term: n.Term()}
	}
	return e
}

// enter: the index of the entry that is to do what is asked.
func (n *Node) enter(a Ask) (int, api.Errno) {
	switch a.Kind {
	case Add, Drop:
		return n.Change(a.Kind == Add, a.From)
	}
	command, e := commandOf(a)
	if e != api.OK {
		return 0, e
	}
	return n.Propose(command)
}

// commandOf: what is asked, as a machine's command.
func commandOf(a Ask) ([]byte, api.Errno) {
	switch a.Kind {
	case Put:
		return machine.Put(a.Session, a.Seq, a.Data)
	case Trim:
		return machine.Trim(a.From)
	}
	return machine.Open(), api.OK
}

// answer: one more, with the leader that is known now.
func (n *Node) answer(a Answer) {
	a.Leader = n.Leader()
	n.answers = append(n.answers, a)
}

// dismiss: who waits for that index, if somebody does, is told an error.
func (n *Node) dismiss(index int, e api.Errno) {
	if w, waits := n.waits[index]; waits {
		delete(n.waits, index)
		n.answer(Answer{ID: w.id, E: e})
	}
}

// passOver: nobody can tell what came of the entries up to that index.
func (n *Node) passOver(index int) {
	for _, i := range slices.Sorted(maps.Keys(n.waits)) {
		if i <= index {
			n.dismiss(i, api.ErrWait)
		}
	}
}

// settle: who waits for an entry is told what came of it, if it is theirs.
func (n *Node) settle(x api.Entry, r machine.Result) {
	w, waits := n.waits[x.Index]
	if !waits {
		return
	}
	if w.term != x.Term {
		n.dismiss(x.Index, api.ErrLeader)
		return
	}
	delete(n.waits, x.Index)
	n.answer(Answer{ID: w.id, E: r.E, Session: r.Session, Number: r.Number})
}

// answerRead: a Get is told what is there now.
func (n *Node) answerRead(id int) {
	asked := n.reads[id]
	delete(n.reads, id)
	records, e := n.machine.Read(asked.from, asked.most)
	n.answer(Answer{ID: id, E: e, Session: n.machine.Start(), Number: n.machine.Next(), Records: records})
}

// loseRead: it may have been another one's to answer.
func (n *Node) loseRead(id int) {
	delete(n.reads, id)
	n.answer(Answer{ID: id, E: api.ErrLeader})
}
