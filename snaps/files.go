package snaps

import (
	"iter"
	"slices"
	"strconv"
	"strings"

	"hustings/api"
	"hustings/vdisk"
)

const (
	prefix     = "snap-"
	digits     = 13         // just enough for the last index that may be
	unfinished = "snap.tmp" // a file that is not a Snapshot's yet
)

// made: was the disk made? A look at any file tells.
func made(d *vdisk.Disk) bool {
	_, e := d.Read(unfinished)
	return e != api.ErrArg
}

// backward: the indexes of Snapshots' files, the last one first. Digits of one width rise as their numbers do.
func backward(d *vdisk.Disk) iter.Seq[int] {
	return func(yield func(int) bool) {
		for _, name := range slices.Backward(d.List()) {
			if index, ok := indexOf(name); ok && !yield(index) {
				return
			}
		}
	}
}

// read: the Snapshot of an index, if its file tells it. One of another index is none, under that name.
func read(d *vdisk.Disk, index int) (Snapshot, bool) {
	b, _ := d.Read(nameOf(index))
	s, e := Get(b)
	if e != api.OK || s.Index != index {
		return Snapshot{}, false
	}
	return s, true
}

// write: the unfinished file has just those bytes, which are sure.
func write(d *vdisk.Disk, b []byte) api.Errno {
	if e := removeUnfinished(d); e != api.OK {
		return e
	}
	if e := d.Create(unfinished); e != api.OK {
		return e
	}
	if e := d.Append(unfinished, b); e != api.OK {
		return e
	}
	return d.Sync(unfinished)
}

// removeUnfinished: what a Save did not finish goes, if it is there.
func removeUnfinished(d *vdisk.Disk) api.Errno {
	if e := d.Remove(unfinished); e != api.ErrNone {
		return e
	}
	return api.OK
}

// removeOthers: the files of all indexes but one go.
func removeOthers(d *vdisk.Disk, but int) api.Errno {
	for index := range backward(d) {
		if index == but {
			continue
		}
		if e := d.Remove(nameOf(index)); e != api.OK {
			return e
		}
	}
	return api.OK
}

// nameOf: the name of the file of that index.
func nameOf(index int) string {
	text := strconv.Itoa(index)
	return prefix + strings.Repeat("0", digits-len(text)) + text
}

// indexOf: the index of the file of that name, if it is that of a Snapshot that may be.
func indexOf(name string) (int, bool) {
	rest, ok := strings.CutPrefix(name, prefix)
	if !ok || len(rest) != digits {
		return 0, false
	}
	index := 0
	for _, digit := range rest {
		if digit < '0' || digit > '9' {
			return 0, false
		}
		index = 10*index + int(digit-'0')
	}
	return index, index >= 1 && index <= maxIndex
}
