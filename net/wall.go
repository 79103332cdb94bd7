package net

import "hustings/api"

// wall: which servers it stands around; where these are none, there is no wall.
type wall [api.MaxID]bool

// around: the wall around servers, which may come in any order, also twice.
func around(ids []int) wall {
	var w wall
	for _, id := range ids {
		w[id] = true
	}
	return w
}

// inside: those of some servers around whom the wall stands.
func (w wall) inside(some wall) wall {
	for id := range some {
		some[id] = some[id] && w[id]
	}
	return some
}

// passes: of a letter's ends none is within the wall, or both are.
func (w wall) passes(l Letter) bool {
	ends := around([]int{l.From, l.To})
	within := w.inside(ends)
	return within == wall{} || within == ends
}
