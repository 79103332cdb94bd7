package node

import (
	"hustings/api"
	"hustings/entries"
	"hustings/machine"
	"hustings/raft"
	"hustings/seglog"
	"hustings/snaps"
	"hustings/stable"
	"hustings/vdisk"
)

const (
	maxKeep = 1000
	nobody  = -1
)

// ofRaft: the part of the options that is the raft's.
func (o Options) ofRaft() raft.Options {
	return raft.Options{Least: o.Least, Beat: o.Beat, Chunk: o.Chunk}
}

// mayOpen: may all be that Open is handed, but the disk? A server on an empty disk tells what the raft says of it.
func mayOpen(o Options, id int, servers []int) bool {
	_, ofRaft := raft.New(o.ofRaft(), raft.Start{ID: id, For: nobody, Servers: servers}, 0)
	_, ofMachine := machine.New(o.Span)
	return ofRaft == api.OK && ofMachine == api.OK && o.Keep >= 1 && o.Keep <= maxKeep
}

// state: what a disk tells.
type state struct {
	vote stable.Vote
	snap snaps.Snapshot // zero, if there is none
	log  *seglog.Log
}

// load: the state that a disk tells, once what is left of a crash is put away. The first step also tells whether the disk was made.
func load(d *vdisk.Disk) (s state, e api.Errno) {
	if e = snaps.Clean(d); e != api.OK {
		return state{}, e
	}
	if s.vote, e = stable.Load(d); e != api.OK {
		return state{}, e
	}
	if s.snap, _, e = snaps.Load(d); e != api.OK {
		return state{}, e
	}
	if s.log, e = seglog.Open(d); e != api.OK {
		return state{}, e
	}
	// A crash came between the two.
	if base, _ := s.log.Base(); base < s.snap.Index {
		e = s.log.Rebase(s.snap.Index, s.snap.Term)
	}
	return s, e
}

// start: the state as a raft's; where there is no snapshot, its servers are those that are handed in.
func (s state) start(id int, servers []int) raft.Start {
	if s.snap.Index > 0 {
		servers = s.snap.Servers
	}
	// All entries, though there may be too many: that is the raft's to refuse.
	l := s.log.Entries(s.snap.Index+1, s.log.Last())
	return raft.Start{
		ID:      id,
		Term:    s.vote.Term,
		For:     s.vote.For,
		Servers: servers,
		View:    entries.View{Base: s.snap.Index, Term: s.snap.Term, L: l},
		Snap:    s.snap,
	}
}

// machine: the snapshot's, or a new one.
func (s state) machine(span int) (*machine.Machine, api.Errno) {
	if s.snap.Index > 0 {
		return machine.Restore(span, s.snap.Data)
	}
	return machine.New(span)
}
