// Package vdisk is layer 1: a stand-in file system that forgets what was not synced: see shared/doc/01-vdisk.md.
package vdisk

import (
	"bytes"
	"maps"

	"hustings/api"
)

// Disk: files that are forgotten unless they are synced.
//
// The changes since the directory was synced are kept as what they do to a directory, so that a crash can do the first of them again to the synced one.
type Disk struct {
	power
	quota   int
	names   directory
	synced  directory
	changes []func(directory)
}

// New: an empty disk of quota bytes.
func New(quota int) (*Disk, api.Errno) {
	if quota < 1 || quota > api.MaxBytes {
		return nil, api.ErrArg
	}
	return &Disk{power: fresh(), quota: quota, names: directory{}, synced: directory{}}, api.OK
}

// Create: an empty file.
func (d *Disk) Create(name string) api.Errno {
	if !d.made() || !right(name) {
		return api.ErrArg
	}
	if d.names[name] != nil {
		return api.ErrThere
	}
	if len(d.names) >= api.MaxFiles {
		return api.ErrFull
	}
	f := &file{}
	return d.change(func(names directory) { names[name] = f })
}

// Append: b behind the file's bytes.
func (d *Disk) Append(name string, b []byte) api.Errno {
	f, e := d.find(name)
	if e != api.OK {
		return e
	}
	if d.names.used()+len(b) > d.quota {
		return api.ErrFull
	}
	if e := d.spend(); e != api.OK {
		return e
	}
	f.data = append(f.data, b...)
	return api.OK
}

// Sync: all bytes of the file last, wherever its name does.
func (d *Disk) Sync(name string) api.Errno {
	f, e := d.find(name)
	if e != api.OK {
		return e
	}
	if e := d.spend(); e != api.OK {
		return e
	}
	f.synced = len(f.data)
	return api.OK
}

// SyncDir: all names last.
func (d *Disk) SyncDir() api.Errno {
	if !d.made() {
		return api.ErrArg
	}
	if e := d.spend(); e != api.OK {
		return e
	}
	d.sure(d.names)
	return api.OK
}

// Rename: the file from is to, in the place of one that was.
func (d *Disk) Rename(from, to string) api.Errno {
	if !right(to) {
		return api.ErrArg
	}
	f, e := d.find(from)
	if e != api.OK {
		return e
	}
	return d.change(func(names directory) {
		delete(names, from) // first: to may be the same name
		names[to] = f
	})
}

// Remove: the name is not there any more.
func (d *Disk) Remove(name string) api.Errno {
	if _, e := d.find(name); e != api.OK {
		return e
	}
	return d.change(func(names directory) { delete(names, name) })
}

// Read: the file's bytes, synced or not.
func (d *Disk) Read(name string) ([]byte, api.Errno) {
	f, e := d.find(name)
	if e != api.OK {
		return nil, e
	}
	return bytes.Clone(f.data), api.OK
}

// List: the names, rising.
func (d *Disk) List() []string {
	if !d.made() {
		return nil
	}
	return d.names.sorted()
}

// Used: how many bytes all files have.
func (d *Disk) Used() int {
	if !d.made() {
		return 0
	}
	return d.names.used()
}

// Cut: n more changes can be made; any number of them, if n is below 0.
func (d *Disk) Cut(n int) {
	if d.made() {
		d.setFuse(n)
	}
}

// Down: is the power gone?
func (d *Disk) Down() bool {
	return d.made() && d.gone
}

// Crash: the power goes and comes back; the choices say how much of what was not synced is kept.
func (d *Disk) Crash(choices []int) {
	if !d.made() {
		return
	}
	choose := chooser(choices)
	names := maps.Clone(d.synced)
	for _, again := range d.changes[:choose(len(d.changes))] {
		again(names)
	}
	// Each file has one name here: the directory was just so behind the last change that is kept.
	for _, name := range names.sorted() {
		f := names[name]
		f.keep(choose(len(f.data) - f.synced))
	}
	d.names = names
	d.sure(names)
	d.power = fresh()
}

// made: was it made by New?
func (d *Disk) made() bool {
	return d != nil && d.names != nil
}

// find: the file of that name, or why there is none.
func (d *Disk) find(name string) (*file, api.Errno) {
	if !d.made() || !right(name) {
		return nil, api.ErrArg
	}
	f := d.names[name]
	if f == nil {
		return nil, api.ErrNone
	}
	return f, api.OK
}

// change: does it to the directory, if there is power, and keeps it for a crash.
func (d *Disk) change(do func(directory)) api.Errno {
	if e := d.spend(); e != api.OK {
		return e
	}
	do(d.names)
	d.changes = append(d.changes, do)
	return api.OK
}

// sure: the synced directory is as names. It is another map, since names goes on changing.
func (d *Disk) sure(names directory) {
	d.synced = maps.Clone(names)
	d.changes = nil
}

// chooser: a function that uses up the choices one by one, each as a number from 0 to most.
func chooser(choices []int) func(most int) int {
	used := 0
	return func(most int) int {
		if used == len(choices) {
			return 0
		}
		used++
		return modulo(choices[used-1], most+1)
	}
}

// modulo: a mod n from 0 on, also where a is below 0.
func modulo(a, n int) int {
	r := a % n
	if r < 0 {
		r += n
	}
	return r
}
