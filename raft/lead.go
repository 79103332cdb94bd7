package raft

import (
	"bytes"
	"slices"

	"hustings/api"
	"hustings/conf"
	"hustings/message"
	"hustings/progress"
	"hustings/wire"
)

// beat: every so many ticks a round, by which the others know that it leads.
func (r *Raft) beat() {
	r.passed++
	if r.passed >= r.options.Beat {
		r.passed = 0
		r.round++
		r.spread()
	}
}

// meet: the others are its peers: who is new begins, who went is forgotten.
func (r *Raft) meet() {
	others := r.others()
	for id := range r.peers {
		if !conf.Has(others, id) {
			delete(r.peers, id)
		}
	}
	for _, id := range others {
		if _, known := r.peers[id]; !known {
			r.peers[id] = peer{Peer: progress.Begin(r.last())}
		}
	}
}

// spread: all others are sent what they need. What is committed may hang on its own log alone.
func (r *Raft) spread() {
	r.send(r.needed(r.others()...)...)
	r.reckon()
}

// needed: what these of the others are sent.
func (r *Raft) needed(ids ...int) []message.Message {
	var l []message.Message
	for _, id := range ids {
		p := r.peers[id]
		s := progress.Batch(r.view, p.Next)
		if s.Snap {
			l = append(l, r.piece(id, p.wanted))
		} else {
			l = append(l, message.Message{Kind: message.Append, To: id, Term: r.term, A: s.Prev, B: s.Term, C: r.commit, D: r.round, Entries: s.Entries})
		}
	}
	return l
}

// piece: of the base's Snapshot, from a place on; one behind its end has no bytes.
func (r *Raft) piece(id, place int) message.Message {
	size := len(r.base.Data)
	from := min(place, size)
	to := min(from+r.options.Chunk, size)
	return message.Message{
		Kind: message.Snap, To: id, Term: r.term,
		A: r.base.Index, B: r.base.Term, C: place, D: r.round, Yes: to == size,
		Servers: slices.Clone(r.base.Servers), Data: bytes.Clone(r.base.Data[from:to]),
	}
}

// reckon: what is committed, by what the servers have.
func (r *Raft) reckon() {
	servers := r.servers()
	match := make([]int, len(servers))
	for i, id := range servers {
		match[i] = r.peers[id].Match
		if id == r.id {
			match[i] = r.last()
		}
	}
	r.commitTo(progress.Commit(r.view, servers, match, r.commit, r.term))
}

// early: what it knows to be committed may be less than what an earlier leader committed.
func (r *Raft) early() bool {
	return r.termAt(r.commit) != r.term
}

// change: the bytes of its servers with one more, or less, or why that may not be.
func (r *Raft) change(add bool, id int) ([]byte, api.Errno) {
	switch {
	case r.role != Leads:
		return nil, api.ErrLeader
	case r.changing():
		return nil, api.ErrBusy
	case r.early():
		return nil, api.ErrEarly
	}
	servers, e := conf.Change(r.servers(), add, id)
	if e != api.OK {
		return nil, e
	}
	if r.full() {
		return nil, api.ErrFull
	}
	return wire.PutServers(servers)
}

// retired: it leads, and is no server any more, and its list is sure.
func (r *Raft) retired() bool {
	return r.role == Leads && !conf.Has(r.servers(), r.id) && !r.changing()
}
