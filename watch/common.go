package watch

import (
	"bytes"

	"hustings/api"
	"hustings/entries"
)

// common: the entries of two logs at the indexes at which both have one: as many of each, behind one base.
type common struct {
	base int
	a, b []api.Entry
}

func commonTo(a, b entries.View) common {
	a, b = orEmpty(a), orEmpty(b)
	base := max(a.Base, b.Base)
	x, y := above(base, a), above(base, b)
	n := min(len(x), len(y))
	return common{base, x[:n], y[:n]}
}

// first: the least index, at most that one, of whose entries it holds; 0, if there is none.
func (c common) first(most int, holds func(x, y api.Entry) bool) int {
	for i := range c.a {
		index := c.base + 1 + i
		if index > most {
			break
		}
		if holds(c.a[i], c.b[i]) {
			return index
		}
	}
	return 0
}

// last: the greatest index of whose entries it holds; 0, if there is none.
func (c common) last(holds func(x, y api.Entry) bool) int {
	for i := len(c.a) - 1; i >= 0; i-- {
		if holds(c.a[i], c.b[i]) {
			return c.base + 1 + i
		}
	}
	return 0
}

// differ: are two entries of one index not the same?
func differ(x, y api.Entry) bool {
	return x.Term != y.Term || x.Kind != y.Kind || !bytes.Equal(x.Data, y.Data)
}

// orEmpty: the View, or an empty one of Base 0, if it may not be.
func orEmpty(v entries.View) entries.View {
	if !entries.Right(v) {
		return entries.View{}
	}
	return v
}

// above: the entries of a View above a base that is not below its own.
func above(base int, v entries.View) []api.Entry {
	return v.L[min(base-v.Base, len(v.L)):]
}

// recordsFrom: those from a number on, of records that begin at first, which is not above it.
func recordsFrom(number int, l [][]byte, first int) [][]byte {
	// Two ints may be further apart than an int tells, but not than a uint64 does.
	gap := uint64(number) - uint64(first)
	return l[min(gap, uint64(len(l))):]
}
