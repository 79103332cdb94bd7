package raft

import (
	"slices"

	"hustings/api"
	"hustings/entries"
	"hustings/message"
	"hustings/progress"
)

// appended: a leader sends entries.
func (r *Raft) appended(m message.Message, draw int) {
	if m.B > m.Term || slices.ContainsFunc(m.Entries, func(x api.Entry) bool { return x.Term > m.Term }) {
		return
	}
	if m.Term < r.term {
		r.answer(m, message.Got, false, 0)
		return
	}
	r.heed(m, draw)
	f := entries.Try(r.view, m.A, m.B, m.Entries)
	switch {
	case !f.Yes:
		r.answer(m, message.Got, false, f.Match)
	case f.Cut != 0 && f.Cut <= r.commit:
		// What is committed stays, whoever says otherwise.
	case !r.fit(f):
		r.answer(m, message.Got, false, r.last()+1)
	default:
		r.commitTo(min(m.C, f.Match))
		r.answer(m, message.Got, true, f.Match)
	}
}

// fit: entries go and come; false, if there is no room.
func (r *Raft) fit(f entries.Fit) bool {
	if len(f.Add) == 0 {
		return true
	}
	next := entries.Do(r.view, f)
	first := f.Add[0]
	// Where Do refuses them, another entry stands in the first one's place, or none.
	if place := first.Index - next.Base - 1; place >= len(next.L) || next.L[place].Term != first.Term {
		return false
	}
	r.view = next
	r.work.Ops = append(r.work.Ops, Op{Cut: f.Cut, Add: f.Add})
	return true
}

// got: one of the others has, or has not, what it was sent.
func (r *Raft) got(m message.Message, draw int) {
	if !r.heard(m, draw) {
		return
	}
	if r.learn(m) && r.behind(m.From) {
		r.send(r.needed(m.From)...)
	}
}

// heard: is it an answer to what it sent as a leader, in this term?
func (r *Raft) heard(m message.Message, draw int) bool {
	r.followHigher(m.Term, draw)
	if _, known := r.peers[m.From]; !known || m.Term != r.term {
		return false
	}
	r.book.Heard(m.From, m.D)
	return true
}

// learn: what a peer has, and so what is committed. Has the peer changed?
func (r *Raft) learn(m message.Message) bool {
	p := r.peers[m.From]
	before := p.Peer
	p.Peer = progress.Heard(p.Peer, m.Yes, m.A, r.last())
	r.peers[m.From] = p
	r.reckon()
	return p.Peer != before
}

// behind: is there something that a peer lacks?
func (r *Raft) behind(id int) bool {
	return r.peers[id].Next <= r.last()
}
