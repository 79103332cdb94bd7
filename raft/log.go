package raft

import (
	"bytes"
	"slices"

	"hustings/api"
	"hustings/entries"
	"hustings/snaps"
	"hustings/wire"
)

// log: a View that may be at all times, what is its base, and up to where all is committed.
type log struct {
	view   entries.View
	base   snaps.Snapshot // of a base of 0 it has the servers alone
	commit int
}

func begun(s Start) log {
	base := copySnap(s.Snap)
	base.Servers = slices.Clone(s.Servers)
	return log{view: copyView(s.View), base: base, commit: s.View.Base}
}

// last: the last entry's index, or the base's.
func (l *log) last() int {
	return l.view.Base + len(l.view.L)
}

func (l *log) full() bool {
	return len(l.view.L) >= api.MaxLog
}

// termAt: of an entry that is here, or of the base; 0, if there is none.
func (l *log) termAt(i int) int {
	term, _ := entries.TermOf(l.view, i)
	return term
}

func (l *log) servers() []int {
	return l.serversAt(l.last())
}

// serversAt: the servers of the log up to an index.
func (l *log) serversAt(i int) []int {
	// The index is bound ahead of the difference, which else might be too great for an int.
	upTo := l.view.L[:min(max(i, l.view.Base), l.last())-l.view.Base]
	for _, x := range slices.Backward(upTo) {
		if x.Kind == api.Servers {
			servers, _ := wire.GetServers(x.Data)
			return servers
		}
	}
	return slices.Clone(l.base.Servers)
}

// changing: is there a change of servers that is not committed?
func (l *log) changing() bool {
	return slices.ContainsFunc(l.view.L[l.commit-l.view.Base:], func(x api.Entry) bool { return x.Kind == api.Servers })
}

// mayBegin: may the log begin behind a Snapshot? What is committed may end above the last base that a View may have.
func (l *log) mayBegin(s snaps.Snapshot) bool {
	return s.Index > l.view.Base && s.Index <= min(l.commit, maxBase) &&
		s.Term == l.termAt(s.Index) && slices.Equal(s.Servers, l.serversAt(s.Index))
}

// rebase: the log begins behind a Snapshot, which it keeps. Entries behind it stay, if it goes on from what is here.
func (l *log) rebase(s snaps.Snapshot) {
	var behind []api.Entry
	if l.termAt(s.Index) == s.Term {
		behind = entries.From(l.view, s.Index+1, api.MaxLog)
	}
	l.view = entries.View{Base: s.Index, Term: s.Term, L: behind}
	l.base = s
}

// put: an entry of its term behind its log, where there is room.
func (r *Raft) put(kind int, data []byte) {
	x := api.Entry{Term: r.term, Index: r.last() + 1, Kind: kind, Data: bytes.Clone(data)}
	r.view.L = append(r.view.L, x)
	x.Data = bytes.Clone(data)
	r.work.Ops = append(r.work.Ops, Op{Add: []api.Entry{x}})
}

// commitTo: at least so far. Pieces of a Snapshot of what is committed are needed no more.
func (r *Raft) commitTo(n int) {
	r.commit = max(r.commit, n)
	if r.pieces.Index <= r.commit {
		r.pieces = snaps.Snapshot{}
	}
}

// copyView: to do nothing with a View makes one in memory of its own.
func copyView(v entries.View) entries.View {
	return entries.Do(v, entries.Fit{})
}

func copySnap(s snaps.Snapshot) snaps.Snapshot {
	s.Servers = slices.Clone(s.Servers)
	s.Data = bytes.Clone(s.Data)
	return s
}
