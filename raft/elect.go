package raft

import (
	"hustings/api"
	"hustings/conf"
	"hustings/entries"
	"hustings/message"
	"hustings/vote"
)

// C of an Ask and of a Vote.
const (
	inEarnest = 0
	onTrial   = 1
)

// wait: one more tick without a leader's word. At the limit nobody leads any more: else a server whose timer begins anew here would count as Fresh, and would not vote for another one.
func (r *Raft) wait(draw int) {
	if !r.clock.Tick() {
		return
	}
	if r.mayStand() {
		r.try(draw)
		return
	}
	r.leader = nobody
	r.clock.Reset(draw)
}

// mayStand: who is removed by an entry that is not committed may be needed still.
func (r *Raft) mayStand() bool {
	return conf.Has(r.servers(), r.id) || conf.Has(r.serversAt(r.commit), r.id)
}

// try: asks whether it would win, which costs no term where it would not.
func (r *Raft) try(draw int) {
	r.state = candidate(Tries, r.id)
	r.clock.Reset(draw)
	if r.termsLeft() {
		r.ask(onTrial, r.term+1)
	}
	if r.won(r.servers()) {
		r.stand(draw)
	}
}

func (r *Raft) stand(draw int) {
	if !r.termsLeft() {
		return
	}
	r.term, r.votedFor = r.term+1, r.id
	r.state = candidate(Stands, r.id)
	r.clock.Reset(draw)
	r.ask(inEarnest, r.term)
	if r.won(r.servers()) {
		r.lead()
	}
}

// lead: what was committed by others is sure only with an entry of its own term behind it.
func (r *Raft) lead() {
	r.state = leader(r.id)
	r.meet()
	r.round++
	if !r.full() {
		r.put(api.Nothing, nil)
	}
	r.spread()
}

// termsLeft: is there a term above its own?
func (r *Raft) termsLeft() bool {
	return r.term < api.MaxTerm-1
}

// ask: all others, for their votes in a term.
func (r *Raft) ask(how, term int) {
	index, last := entries.Last(r.view)
	var l []message.Message
	for _, id := range r.others() {
		l = append(l, message.Message{Kind: message.Ask, To: id, Term: term, A: index, B: last, C: how})
	}
	r.send(l...)
}

// asked: for its vote.
func (r *Raft) asked(m message.Message, draw int) {
	next, yes, silent := vote.Answer(r.me(), vote.Ask{Term: m.Term, From: m.From, Index: m.A, Last: m.B})
	if silent {
		return
	}
	switch m.C {
	case onTrial:
		term := max(r.term, 1)
		if yes {
			term = m.Term
		}
		r.send(message.Message{Kind: message.Vote, To: m.From, Term: term, C: onTrial, Yes: yes})
	case inEarnest:
		r.followHigher(next.Term, draw)
		r.votedFor = next.For
		if yes {
			r.clock.Reset(draw)
		}
		r.send(message.Message{Kind: message.Vote, To: m.From, Term: r.term, C: inEarnest, Yes: yes})
	}
}

// me: as one that is asked for its vote.
func (r *Raft) me() vote.Me {
	index, last := entries.Last(r.view)
	fresh := r.role == Leads || r.leader != nobody && r.clock.Fresh()
	return vote.Me{Term: r.term, For: r.votedFor, Index: index, Last: last, Fresh: fresh}
}

// voted: by another one.
func (r *Raft) voted(m message.Message, draw int) {
	wouldVote := m.Yes && m.C == onTrial
	// Such a vote bears the term that was asked for, in which nobody is yet.
	if !wouldVote {
		r.followHigher(m.Term, draw)
	}
	switch {
	case r.role == Tries && wouldVote && m.Term == r.term+1:
		r.count(m.From)
		if r.won(r.servers()) {
			r.stand(draw)
		}
	case r.role == Stands && m.Yes && m.C == inEarnest && m.Term == r.term:
		r.count(m.From)
		if r.won(r.servers()) {
			r.lead()
		}
	}
}
