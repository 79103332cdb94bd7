package raft

import (
	"hustings/conf"
	"hustings/message"
	"hustings/progress"
	"hustings/vote"
)

// state: a role, and what goes with it: a new role begins with a state of its own, and so forgets the one ahead of it.
type state struct {
	role   int
	leader int          // or nobody
	yes    []int        // who would vote for it, or did, while it Tries or Stands
	peers  map[int]peer // the others, while it Leads
	passed int          // ticks since the last one that began a round, while it Leads
}

// peer: one of the others, and the place in the Snapshot of the base from which it wants it.
type peer struct {
	progress.Peer
	wanted int
}

func follower() state {
	return state{role: Follows, leader: nobody}
}

func candidate(role, id int) state {
	return state{role: role, leader: nobody, yes: []int{id}}
}

func leader(id int) state {
	return state{role: Leads, leader: id, peers: map[int]peer{}}
}

// count: one more said yes.
func (s *state) count(id int) {
	if !conf.Has(s.yes, id) {
		s.yes = append(s.yes, id)
	}
}

func (s *state) won(servers []int) bool {
	return vote.Won(servers, s.yes)
}

// follow: in a term, which is its own or a higher one.
func (r *Raft) follow(term, draw int) {
	if term > r.term {
		r.term, r.votedFor = term, nobody
	}
	r.state = follower()
	r.work.Lost = append(r.work.Lost, r.book.Clear()...)
	r.clock.Reset(draw)
}

// followHigher: who tells of a higher term ends what it did in its own.
func (r *Raft) followHigher(term, draw int) {
	if term > r.term {
		r.follow(term, draw)
	}
}

// heed: who sends this leads in its term, which is not an elder one.
func (r *Raft) heed(m message.Message, draw int) {
	if m.Term > r.term || r.role != Follows {
		r.follow(m.Term, draw)
	}
	r.leader = m.From
	r.clock.Reset(draw)
}

// others: the servers but itself.
func (r *Raft) others() []int {
	var l []int
	for _, id := range r.servers() {
		if id != r.id {
			l = append(l, id)
		}
	}
	return l
}

// send: messages from it, in order.
func (r *Raft) send(l ...message.Message) {
	for _, m := range l {
		m.From = r.id
		r.work.Messages = append(r.work.Messages, m)
	}
}

// answer: to a leader, in its round.
func (r *Raft) answer(m message.Message, kind int, yes bool, at int) {
	r.send(message.Message{Kind: kind, To: m.From, Term: r.term, A: at, D: m.D, Yes: yes})
}
