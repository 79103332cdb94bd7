package seglog

import (
	"iter"
	"strconv"
	"strings"

	"hustings/api"
	"hustings/vdisk"
)

const (
	prefix     = "log-"
	digits     = 8
	maxNumber  = 99999999  // that digits can tell
	unfinished = "log.tmp" // a file that is not one of the log's yet
)

// place: where a log stands among its files: at the end of the last one.
type place struct {
	disk   *vdisk.Disk
	number int  // of the last file; 0: there is none
	size   int  // its bytes
	whole  bool // all of it are records that fit
	sure   bool // all of it is synced, as far as is known
	out    bool // of use, behind an error of the disk
}

// write: records at the end of the last file, or of a new one.
func (p *place) write(b []byte) api.Errno {
	if p.number == 0 || !p.whole || p.size >= api.Segment {
		if e := p.begin(); e != api.OK {
			return e
		}
	}
	p.size += len(b)
	p.sure = false
	return p.try(func() api.Errno { return p.disk.Append(name(p.number), b) })
}

// begin: a new file. The last one is synced ahead of it, so that no file that lasts stands behind one that may be torn.
func (p *place) begin() api.Errno {
	if p.number == maxNumber {
		return api.ErrOver
	}
	next := name(p.number + 1)
	e := p.try(
		p.settle,
		func() api.Errno { return p.disk.Create(next) },
		p.disk.SyncDir,
	)
	if e != api.OK {
		return e
	}
	*p = place{disk: p.disk, number: p.number + 1, whole: true}
	return api.OK
}

// replace: one new file, which tells a whole state, in the place of all that are there.
//
// The elder files may come back behind a crash, but never without a cut that stood among them: what it cut would be there again, behind the new base. So all of them is sure first, and they go from the eldest on: without those ahead of it a file tells nothing, or what it told among them.
func (p *place) replace(b []byte) api.Errno {
	if p.number == maxNumber {
		return api.ErrOver
	}
	next := name(p.number + 1)
	e := p.try(
		p.secure,
		func() api.Errno { return p.disk.Create(unfinished) },
		func() api.Errno { return p.disk.Append(unfinished, b) },
		func() api.Errno { return p.disk.Sync(unfinished) },
		func() api.Errno { return p.disk.Rename(unfinished, next) },
		p.disk.SyncDir,
		p.removeElder,
	)
	if e != api.OK {
		return e
	}
	*p = place{disk: p.disk, number: p.number + 1, size: len(b), whole: true, sure: true}
	return api.OK
}

// try: does steps on the disk, up to the first that fails, which puts the log out of use.
func (p *place) try(steps ...func() api.Errno) api.Errno {
	for _, step := range steps {
		if e := step(); e != api.OK {
			p.out = true
			return e
		}
	}
	return api.OK
}

// settle: syncs the last file, if there is one.
func (p *place) settle() api.Errno {
	if p.number == 0 {
		return api.OK
	}
	e := p.disk.Sync(name(p.number))
	p.sure = e == api.OK
	return e
}

// secure: syncs the last file, unless it is sure.
func (p *place) secure() api.Errno {
	if p.sure {
		return api.OK
	}
	return p.settle()
}

// removeElder: removes all files up to the last one, by rising names.
func (p *place) removeElder() api.Errno {
	for number := range files(p.disk) {
		if number > p.number {
			break
		}
		if e := p.disk.Remove(name(number)); e != api.OK {
			return e
		}
	}
	return api.OK
}

// clean: removes what a Rebase did not finish. Reading it also tells whether the disk was made.
func clean(d *vdisk.Disk) api.Errno {
	_, e := d.Read(unfinished)
	switch e {
	case api.OK:
		return d.Remove(unfinished)
	case api.ErrNone:
		return api.OK
	}
	return e
}

// files: the numbers of a log's files, rising as their names do.
func files(d *vdisk.Disk) iter.Seq[int] {
	return func(yield func(int) bool) {
		for _, text := range d.List() {
			if number, ok := numberOf(text); ok && !yield(number) {
				return
			}
		}
	}
}

// name: of the file of that number.
func name(number int) string {
	text := strconv.Itoa(number)
	return prefix + strings.Repeat("0", digits-len(text)) + text
}

// numberOf: the number of the file of that name, if it is a log's.
func numberOf(text string) (int, bool) {
	rest, ok := strings.CutPrefix(text, prefix)
	if !ok || len(rest) != digits || strings.Trim(rest, "0123456789") != "" {
		return 0, false
	}
	number, _ := strconv.Atoi(rest)
	return number, number > 0
}
