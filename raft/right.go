package raft

import (
	"slices"

	"hustings/api"
	"hustings/conf"
	"hustings/entries"
	"hustings/message"
	"hustings/snaps"
)

const (
	minLeast   = 2
	maxLeast   = 1000
	maxSnap    = 60000   // bytes of a Snapshot's Data
	maxCommand = 4096    // bytes of a Command's Data
	maxBase    = 1 << 39 // the last index that a View's base may have
	nobody     = -1
)

func (o Options) mayBe() bool {
	return o.Least >= minLeast && o.Least <= maxLeast &&
		o.Beat >= 1 && o.Beat < o.Least &&
		o.Chunk >= 1 && o.Chunk <= maxSnap
}

func (s Start) mayBe() bool {
	return s.ID >= 0 && s.ID < api.MaxID &&
		s.Term >= 0 && s.Term < api.MaxTerm &&
		s.For >= nobody && s.For < api.MaxID &&
		s.viewMayBe() && s.baseMayBe()
}

// viewMayBe: terms do not fall in a View that may be, so that the last one is the highest.
func (s Start) viewMayBe() bool {
	_, highest := entries.Last(s.View)
	return entries.Right(s.View) && highest <= s.Term
}

func (s Start) baseMayBe() bool {
	if s.View.Base == 0 {
		return (len(s.Servers) == 0 || conf.Right(s.Servers)) && isZero(s.Snap)
	}
	return snapMayBe(s.Snap) && s.Snap.Index == s.View.Base && s.Snap.Term == s.View.Term && slices.Equal(s.Snap.Servers, s.Servers)
}

// snapMayBe: may a Snapshot be? That is snaps' to tell.
func snapMayBe(s snaps.Snapshot) bool {
	_, e := snaps.Put(s)
	return e == api.OK
}

func isZero(s snaps.Snapshot) bool {
	return s.Index == 0 && s.Term == 0 && len(s.Servers) == 0 && len(s.Data) == 0
}

// mayBe: may a message be? That is message's to tell.
func mayBe(m message.Message) bool {
	_, e := message.Put(m)
	return e == api.OK
}
