package snaps

import (
	"hustings/api"
	"hustings/frame"
	"hustings/wire"
)

const (
	kind     = 5 // of a Snapshot's frame
	maxIndex = 1<<40 - 1
	maxData  = 60000
)

// Put: a Snapshot as bytes.
func Put(s Snapshot) ([]byte, api.Errno) {
	servers, e := wire.PutServers(s.Servers)
	if e != api.OK || !s.inBounds() {
		return nil, api.ErrArg
	}
	return frame.Put(kind, wire.Join(number(s.Index), number(s.Term), counted(servers), counted(s.Data)))
}

// Get: the Snapshot that bytes are.
func Get(b []byte) (Snapshot, api.Errno) {
	l, _, whole := frame.Scan(b)
	if len(l) != 1 || !whole || l[0].Kind != kind {
		return Snapshot{}, api.ErrForm
	}
	r := wire.New(l[0].Data)
	s := Snapshot{Index: r.Number(), Term: r.Number()}
	servers, e := wire.GetServers(r.Bytes())
	s.Servers, s.Data = servers, r.Bytes()
	if e != api.OK || r.End() != api.OK || !s.inBounds() {
		return Snapshot{}, api.ErrForm
	}
	return s, api.OK
}

// inBounds: may all of it be, but the servers, which are wire's to tell?
func (s Snapshot) inBounds() bool {
	return s.Index >= 1 && s.Index <= maxIndex && s.Term >= 1 && s.Term < api.MaxTerm && len(s.Data) <= maxData
}

// number: as bytes. Indexes and terms never come near to the greatest number.
func number(n int) []byte {
	b, _ := wire.PutNumber(n)
	return b
}

// counted: bytes behind their number. What a Snapshot has never comes near to the most that there can be.
func counted(b []byte) []byte {
	c, _ := wire.PutBytes(b)
	return c
}
