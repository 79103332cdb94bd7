package entries

import (
	"hustings/api"
	"hustings/wire"
)

// maxBase: the last index that a base may have.
const maxBase = 1 << 39

// maySend: may a leader send them? What is sent is a View, too, with the entry ahead of it as its base.
func maySend(sent View) bool {
	return sent.Base >= 0 && sent.Term >= 0 && len(sent.L) <= api.MaxBatch && goesOn(sent)
}

// goesOn: are they entries that may be, with indexes that go on by one from the base, and terms that don't fall?
func goesOn(v View) bool {
	index, term := v.Base, v.Term
	for x := range each(v) {
		if !mayBe(x) || x.Index-1 != index || x.Term < term {
			return false
		}
		index, term = x.Index, x.Term
	}
	return true
}

// mayBe: may an entry be? That is wire's to tell.
func mayBe(x api.Entry) bool {
	_, e := wire.PutEntry(x)
	return e == api.OK
}

// hint: from where to send, if an entry of that index and term is not here; 0, if it is, or was below the base.
func hint(v View, prev, term int) int {
	last, _ := end(v)
	if prev > last {
		return last + 1
	}
	if prev < v.Base || termAt(v, prev) == term {
		return 0
	}
	// Where prev is the base, an entry of its term can only be the first one.
	return max(firstOf(v, termAt(v, prev)), v.Base+1)
}

// clash: the index of the first sent entry whose term is another one than that here; 0, if there is none.
func clash(v, sent View) int {
	last, _ := end(v)
	for x := range from(sent, v.Base+1) {
		if x.Index <= last && x.Term != termAt(v, x.Index) {
			return x.Index
		}
	}
	return 0
}

// firstOf: the index of the first entry of a term; 0, if there is none.
func firstOf(v View, term int) int {
	for x := range each(v) {
		if x.Term == term {
			return x.Index
		}
	}
	return 0
}
