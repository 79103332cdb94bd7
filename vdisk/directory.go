package vdisk

import (
	"maps"
	"slices"

	"hustings/api"
)

// file: its bytes, of which the first ones are synced. Both directories may name the same one.
type file struct {
	data   []byte
	synced int
}

// keep: of the bytes that are not synced only the first n are left, and all that is left is synced.
func (f *file) keep(n int) {
	f.synced += n
	f.data = f.data[:f.synced]
}

// directory: which name is which file.
type directory map[string]*file

func (d directory) used() int {
	n := 0
	for _, f := range d {
		n += len(f.data)
	}
	return n
}

func (d directory) sorted() []string {
	return slices.Sorted(maps.Keys(d))
}

// right: may it be a name?
func right(name string) bool {
	if len(name) < 1 || len(name) > api.MaxName {
		return false
	}
	for i := range len(name) {
		if name[i] < 33 || name[i] > 126 {
			return false
		}
	}
	return true
}
