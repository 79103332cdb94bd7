package conf

import (
	"slices"

	"hustings/api"
)

// mayBe: is it a number that a server may have?
func mayBe(id int) bool {
	return id >= 0 && id < api.MaxID
}

// with: a list that may be, and one server more.
func with(l []int, id int) ([]int, api.Errno) {
	if Has(l, id) || len(l) >= api.MaxServers {
		return nil, api.ErrServer
	}
	at := placeOf(l, id)
	return joined(l[:at], []int{id}, l[at:]), api.OK
}

// without: a list that may be, and one server less; the last one stays, for nobody could agree on anything behind it.
func without(l []int, id int) ([]int, api.Errno) {
	if !Has(l, id) || len(l) == 1 {
		return nil, api.ErrServer
	}
	at := placeOf(l, id)
	return joined(l[:at], l[at+1:]), api.OK
}

// changesTo: is b what a is behind the one change that a server can make of it? (One that is in a can only go, another one only come.)
func changesTo(a []int, id int, b []int) bool {
	l, e := Change(a, !Has(a, id), id)
	return e == api.OK && slices.Equal(l, b)
}

// placeOf: where a server stands in a rising list, or would stand.
func placeOf(l []int, id int) int {
	return first(len(l), func(i int) bool { return l[i] >= id })
}

// joined: the parts one behind the other, in memory of their own.
func joined(parts ...[]int) []int {
	l := make([]int, 0, api.MaxServers)
	for i := range len(parts) {
		l = append(l, parts[i]...)
	}
	return l
}

// every: does it hold of all places below n?
func every(n int, holds func(i int) bool) bool {
	return first(n, func(i int) bool { return !holds(i) }) == n
}

// first: the first place below n of which it holds; n, if there is none.
func first(n int, holds func(i int) bool) int {
	for i := range n {
		if holds(i) {
			return i
		}
	}
	return n
}
