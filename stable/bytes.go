package stable

import (
	"hustings/api"
	"hustings/frame"
	"hustings/wire"
)

// kind: of a Vote's frame.
const kind = 4

// Put: a Vote as bytes.
func Put(v Vote) ([]byte, api.Errno) {
	if !v.mayBe() {
		return nil, api.ErrArg
	}
	// For may be -1, and a number may not.
	return frame.Put(kind, wire.Join(number(v.Term), number(v.For+1)))
}

// Get: the Vote that bytes are.
func Get(b []byte) (Vote, api.Errno) {
	l, _, whole := frame.Scan(b)
	if len(l) != 1 || !whole || l[0].Kind != kind {
		return Vote{}, api.ErrForm
	}
	r := wire.New(l[0].Data)
	v := Vote{Term: r.Number(), For: r.Number() - 1}
	if r.End() != api.OK || !v.mayBe() {
		return Vote{}, api.ErrForm
	}
	return v, api.OK
}

// mayBe: is it a Vote that may be?
func (v Vote) mayBe() bool {
	return v.Term >= 0 && v.Term < api.MaxTerm && v.For >= nobody && v.For < api.MaxID
}

// number: as bytes. Terms and servers never come near to the greatest number.
func number(n int) []byte {
	b, _ := wire.PutNumber(n)
	return b
}
