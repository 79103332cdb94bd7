package entries

import (
	"bytes"
	"iter"
	"slices"

	"hustings/api"
)

// each: all entries, in order.
func each(v View) iter.Seq[api.Entry] {
	return slices.Values(v.L)
}

// from: the entries from an index on, or from the first one, in order.
func from(v View, i int) iter.Seq[api.Entry] {
	return slices.Values(v.L[place(v, i):])
}

// few: the first ones, at most so many.
func few(l iter.Seq[api.Entry], most int) iter.Seq[api.Entry] {
	return func(yield func(api.Entry) bool) {
		left := most
		for x := range l {
			if left <= 0 || !yield(x) {
				return
			}
			left--
		}
	}
}

// copies: the entries of all parts, one behind the other, in memory of their own.
func copies(parts ...iter.Seq[api.Entry]) []api.Entry {
	var l []api.Entry
	for _, part := range parts {
		for x := range part {
			x.Data = bytes.Clone(x.Data)
			l = append(l, x)
		}
	}
	return l
}

// place: where the first entry at or above an index stands in the list; its end, if there is none.
func place(v View, i int) int {
	last, _ := end(v)
	// The index is bound ahead of the difference, which else might be too great for an int.
	return min(max(i, v.Base+1), last+1) - v.Base - 1
}

// end: the index and the term of the last entry, or of the base.
func end(v View) (index, term int) {
	if len(v.L) == 0 {
		return v.Base, v.Term
	}
	x := v.L[len(v.L)-1]
	return x.Index, x.Term
}

// termAt: of an entry that is here, or of the base.
func termAt(v View, i int) int {
	if i == v.Base {
		return v.Term
	}
	return v.L[place(v, i)].Term
}
