package raft

import (
	"slices"

	"hustings/message"
	"hustings/snaps"
)

// snapped: a leader sends a piece of a Snapshot.
func (r *Raft) snapped(m message.Message, draw int) {
	if m.B > m.Term || m.A > maxBase {
		return
	}
	if m.Term < r.term {
		r.answer(m, message.Have, false, 0)
		return
	}
	r.heed(m, draw)
	switch {
	case m.A <= r.commit:
		r.answer(m, message.Have, true, r.commit)
	case m.B == 0:
		// No entry is of the term 0: such a Snapshot may not be.
	case r.gather(m):
		r.install()
		r.answer(m, message.Have, true, m.A)
	default:
		r.answer(m, message.Have, false, len(r.pieces.Data))
	}
}

// gather: a piece more, if it is the next one. Is the Snapshot whole?
func (r *Raft) gather(m message.Message) bool {
	if m.A != r.pieces.Index || m.B != r.pieces.Term || !slices.Equal(m.Servers, r.pieces.Servers) {
		r.pieces = snaps.Snapshot{Index: m.A, Term: m.B, Servers: slices.Clone(m.Servers)}
	}
	size := len(r.pieces.Data)
	switch {
	case m.C != size:
		return false
	case size+len(m.Data) > maxSnap:
		r.pieces.Data = nil
		return false
	}
	r.pieces.Data = append(r.pieces.Data, m.Data...)
	return m.Yes
}

// install: what was gathered is the base.
func (r *Raft) install() {
	s := r.pieces
	told := copySnap(s)
	r.rebase(s)
	r.commitTo(s.Index)
	r.work.Ops = append(r.work.Ops, Op{Snap: &told})
}

// have: one of the others has a Snapshot, or wants more of it.
func (r *Raft) have(m message.Message, draw int) {
	if !r.heard(m, draw) {
		return
	}
	again := true
	if m.Yes {
		r.want(m.From, 0)
		again = r.learn(m)
	} else {
		r.want(m.From, m.A)
	}
	if again && r.behind(m.From) {
		r.send(r.needed(m.From)...)
	}
}

// want: the place from which a peer is sent a Snapshot.
func (r *Raft) want(id, place int) {
	p := r.peers[id]
	p.wanted = place
	r.peers[id] = p
}
