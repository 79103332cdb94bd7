package seglog_test

import (
	"bytes"
	"fmt"
	"slices"
	"testing"

	"hustings/api"
	"hustings/seglog"
	"hustings/vdisk"
)

// P504: the records as they stand in the first file.
func TestRecords(t *testing.T) {
	d := newDisk(t, 10000)
	l := open(t, d)
	done(t, l.Sync())
	if got := names(d); got != "" {
		t.Errorf("files ahead of all changes: %s", got)
	}
	done(t, l.Append(at(1, 1), at(2, 1)))
	wantFile(t, "Append", d, "log-00000001", entryBytes(at(1, 1), at(2, 1)))
	done(t, l.Append(at(3, 300)), l.Cut(2), l.Sync(), l.Append(at(2, 5)))
	whole := bytes.Join([][]byte{entryBytes(at(1, 1), at(2, 1), at(3, 300)), cutBytes(2), entryBytes(at(2, 5))}, nil)
	wantFile(t, "and more", d, "log-00000001", whole)
	l = open(t, d)
	done(t, l.Cut(1))
	wantFile(t, "opened again", d, "log-00000001", whole, cutBytes(1))
	done(t, l.Append(at(1, 9), at(2, 9), at(3, 9)), l.Rebase(2, 9))
	wantFile(t, "Rebase", d, "log-00000002", baseBytes(2, 9), entryBytes(at(3, 9)))
	done(t, l.Append(at(4, 9)), l.Sync())
	wantFile(t, "behind Rebase", d, "log-00000002", baseBytes(2, 9), entryBytes(at(3, 9), at(4, 9)))
	done(t, l.Rebase(7, 9))
	wantFile(t, "Rebase past all", d, "log-00000003", baseBytes(7, 9))
	if got := names(d); got != "log-00000003" {
		t.Errorf("files: %s", got)
	}
}

// filled: an entry 1 whose record has so many bytes.
func filled(t *testing.T, size int) api.Entry {
	t.Helper()
	for n := size; n > 0; n-- {
		if x := sized(1, 1, n); len(entryBytes(x)) == size {
			return x
		}
	}
	t.Fatalf("no record has %d bytes", size)
	return api.Entry{}
}

// P504: a file takes records as long as it has fewer than Segment bytes.
func TestSegment(t *testing.T) {
	for _, c := range []struct {
		size int
		want string
	}{
		{api.Segment - 1, "log-00000001"},
		{api.Segment, "log-00000001 log-00000002"},
		{api.Segment + 1, "log-00000001 log-00000002"},
	} {
		for _, again := range []bool{false, true} {
			for _, cut := range []bool{false, true} {
				d := newDisk(t, 10000)
				l := open(t, d)
				done(t, l.Append(filled(t, c.size)))
				if again {
					l = open(t, d)
				}
				if cut {
					done(t, l.Cut(1))
				} else {
					done(t, l.Append(at(2, 1)))
				}
				if got := names(d); got != c.want {
					t.Errorf("%d bytes, opened again %v, Cut %v: %s", c.size, again, cut, got)
				}
			}
		}
	}
}

// P504: one Append stands in one file, however long.
func TestOneFile(t *testing.T) {
	d := newDisk(t, 100000)
	l := open(t, d)
	var x []api.Entry
	for i := range 20 {
		x = append(x, sized(i+1, 1, 500))
	}
	done(t, l.Append(at(1, 1)), l.Cut(1), l.Append(x...))
	wantFile(t, "long", d, "log-00000001", entryBytes(at(1, 1)), cutBytes(1), entryBytes(x...))
	done(t, l.Append(at(21, 1)), l.Append(at(22, 1)))
	wantFile(t, "the next", d, "log-00000002", entryBytes(at(21, 1), at(22, 1)))
	done(t, l.Rebase(3, 1), l.Append(at(23, 1)))
	wantFile(t, "behind a long base", d, "log-00000004", entryBytes(at(23, 1)))
	if got := names(d); got != "log-00000003 log-00000004" {
		t.Errorf("files: %s", got)
	}
}

// P504: a last file that is not whole gets nothing more; an empty one is whole.
func TestNotWhole(t *testing.T) {
	one := entryBytes(at(1, 1))
	for _, c := range []struct {
		what  string
		files [][]byte
		want  string
		last  int
	}{
		{"whole", [][]byte{one}, "log-00000001", 1},
		{"empty", [][]byte{one, nil}, "log-00000001 log-00000002", 1},
		{"torn", [][]byte{entryBytes(at(1, 1), at(2, 1))[:len(one)+5]}, "log-00000001 log-00000002", 1},
		{"a byte behind", [][]byte{append(slices.Clone(one), 0)}, "log-00000001 log-00000002", 1},
		{"nothing whole", [][]byte{one[:3]}, "log-00000001 log-00000002", 0},
		{"a gap", [][]byte{entryBytes(at(1, 1), at(3, 1))}, "log-00000001 log-00000002", 1},
		{"a cut of nothing", [][]byte{append(slices.Clone(one), cutBytes(2)...)}, "log-00000001 log-00000002", 1},
		{"another kind", [][]byte{append(slices.Clone(one), framed(9)...)}, "log-00000001 log-00000002", 1},
		{"an elder one torn", [][]byte{append(slices.Clone(one), 0), entryBytes(at(2, 1))}, "log-00000001 log-00000002", 2},
		{"the last one torn", [][]byte{one, append(entryBytes(at(2, 1)), 0)}, "log-00000001 log-00000002 log-00000003", 2},
		{"at the base", [][]byte{append(baseBytes(5, 5), entryBytes(at(5, 1), at(2, 2))...)}, "log-00000001", 5},
	} {
		d := laid(t, c.files...)
		l := open(t, d)
		if l.Last() != c.last {
			t.Errorf("%s: last %d", c.what, l.Last())
		}
		done(t, l.Append(at(c.last+1, 9)), l.Append(at(c.last+2, 9)), l.Cut(c.last+2))
		if got := names(d); got != c.want {
			t.Errorf("%s: %s, want %s", c.what, got, c.want)
		}
		if got := open(t, d).Last(); got != c.last+1 {
			t.Errorf("%s: last %d behind an Append", c.what, got)
		}
	}
}

// P504: the next number is that of the last file and one, whichever there are.
func TestNextNumber(t *testing.T) {
	full := entryBytes(filled(t, api.Segment))
	for _, c := range []struct{ name, next, rebased string }{
		{"log-00000001", "log-00000002", "log-00000003"},
		{"log-00000009", "log-00000010", "log-00000011"},
		{"log-00012345", "log-00012346", "log-00012347"},
		{"log-09999999", "log-10000000", "log-10000001"},
		{"log-99999997", "log-99999998", "log-99999999"},
	} {
		d := newDisk(t, 10000)
		lay(t, d, c.name, full)
		lay(t, d, "log-00000000", full)
		lay(t, d, "vote", full[:9]) // by its name behind all of them
		l := open(t, d)
		done(t, l.Append(at(2, 1)))
		wantFile(t, c.name, d, c.next, entryBytes(at(2, 1)))
		done(t, l.Rebase(1, 1))
		if got, want := names(d), "log-00000000 "+c.rebased+" vote"; got != want {
			t.Errorf("%s: %s, want %s", c.name, got, want)
		}
	}
}

// Behind the last number there is none: refused, and nothing is written.
func TestNumbersUsedUp(t *testing.T) {
	d := newDisk(t, 10000)
	lay(t, d, "log-99999999", entryBytes(filled(t, api.Segment-1)))
	l := open(t, d)
	wantErr(t, "Rebase", l.Rebase(1, 1), api.ErrOver)
	done(t, l.Append(at(2, 1)), l.Sync())
	d.Cut(0)
	for _, c := range changes(l)[:3] {
		wantErr(t, c.name, c.call(), api.ErrOver)
	}
	if d.Down() {
		t.Error("a refused change used the disk")
	}
	if got := names(d); got != "log-99999999" || l.Last() != 2 {
		t.Errorf("files: %s, last %d", got, l.Last())
	}
	d.Cut(-1)
	done(t, l.Sync())
}

// P504: what stands in an elder file is synced ahead of the next file, and its name; Sync is the last one's.
func TestSynced(t *testing.T) {
	d := newDisk(t, 10000)
	l := open(t, d)
	first := filled(t, api.Segment)
	done(t, l.Append(first), l.Append(at(2, 1)))
	d.Crash(nil)
	wantState(t, "the elder file", open(t, d), state{list: []api.Entry{first}})
	if got := names(d); got != "log-00000001 log-00000002" {
		t.Errorf("the name was not synced: %s", got)
	}
	l = open(t, d)
	done(t, l.Append(at(2, 1)), l.Sync(), l.Append(at(3, 1)))
	d.Crash(nil)
	wantState(t, "Sync", open(t, d), state{list: []api.Entry{first, at(2, 1)}})
	// A torn file that another Log left without a crash is synced, too.
	lay(t, d, "log-00000003", entryBytes(at(3, 1)), []byte{7})
	done(t, d.SyncDir())
	l = open(t, d)
	done(t, l.Append(at(4, 1)), l.Sync())
	d.Crash(nil)
	wantState(t, "a torn one", open(t, d), state{list: []api.Entry{first, at(2, 1), at(3, 1), at(4, 1)}})
}

// steps: what the files are, when the power goes behind each step of a change.
func steps(t *testing.T, begin func() (*vdisk.Disk, *seglog.Log), call func(*seglog.Log) api.Errno) []string {
	t.Helper()
	var l []string
	for n := range 100 {
		d, log := begin()
		ahead := tell(t, log)
		d.Cut(n)
		e := call(log)
		text := ""
		for _, name := range d.List() {
			b, _ := d.Read(name)
			text += fmt.Sprintf("%s=%d ", name[3:], len(b))
		}
		l = append(l, text)
		if e == api.OK {
			return l
		}
		wantErr(t, "without power", e, api.ErrPower)
		wantState(t, "failed", log, ahead)
	}
	t.Fatal("a change without end")
	return nil
}

func wantSteps(t *testing.T, what string, got []string, want ...string) {
	t.Helper()
	if !slices.Equal(got, want) {
		t.Errorf("%s:\n%q\nwant\n%q", what, got, want)
	}
}

// P504: the steps of each change, in order.
func TestSteps(t *testing.T) {
	empty := func() (*vdisk.Disk, *seglog.Log) {
		d := newDisk(t, 10000)
		return d, open(t, d)
	}
	entry := len(entryBytes(at(1, 1)))
	one := fmt.Sprintf("-00000001=%d ", entry)
	appended := func(l *seglog.Log) api.Errno { return l.Append(at(l.Last()+1, 1)) }
	wantSteps(t, "the first Append", steps(t, empty, appended),
		"", "-00000001=0 ", "-00000001=0 ", one) // nothing, created, its name synced, written
	begun := func() (*vdisk.Disk, *seglog.Log) {
		d, l := empty()
		done(t, l.Append(at(1, 1)), l.Sync())
		return d, l
	}
	wantSteps(t, "Append", steps(t, begun, appended), one, fmt.Sprintf("-00000001=%d ", 2*entry))
	wantSteps(t, "Cut", steps(t, begun, func(l *seglog.Log) api.Errno { return l.Cut(1) }),
		one, fmt.Sprintf("-00000001=%d ", entry+len(cutBytes(1))))
	wantSteps(t, "Sync", steps(t, begun, func(l *seglog.Log) api.Errno { return l.Sync() }), one, one)
	wantSteps(t, "Sync of nothing", steps(t, empty, func(l *seglog.Log) api.Errno { return l.Sync() }), "")
	full := func() (*vdisk.Disk, *seglog.Log) {
		d, l := empty()
		done(t, l.Append(filled(t, api.Segment)), l.Sync())
		return d, l
	}
	wantSteps(t, "Append to a full file", steps(t, full, appended),
		"-00000001=2048 ", "-00000001=2048 ", "-00000001=2048 -00000002=0 ", "-00000001=2048 -00000002=0 ",
		fmt.Sprintf("-00000001=2048 -00000002=%d ", entry))
	base := fmt.Sprint(len(baseBytes(1, 1)))
	wantSteps(t, "Rebase", steps(t, begun, func(l *seglog.Log) api.Errno { return l.Rebase(1, 1) }),
		one, one+".tmp=0 ", one+".tmp="+base+" ", one+".tmp="+base+" ", one+"-00000002="+base+" ", one+"-00000002="+base+" ", "-00000002="+base+" ")
	rebased := func() (*vdisk.Disk, *seglog.Log) {
		d, l := empty()
		done(t, l.Rebase(1, 1))
		return d, l
	}
	only := "-00000001=" + base + " "
	wantSteps(t, "Rebase of what is sure", steps(t, rebased, func(l *seglog.Log) api.Errno { return l.Rebase(2, 1) }),
		only, only+".tmp=0 ", only+".tmp="+base+" ", only+".tmp="+base+" ", only+"-00000002="+base+" ", only+"-00000002="+base+" ", "-00000002="+base+" ")
	wantSteps(t, "Rebase without files", steps(t, empty, func(l *seglog.Log) api.Errno { return l.Rebase(1, 1) }),
		"", ".tmp=0 ", ".tmp="+base+" ", ".tmp="+base+" ", "-00000001="+base+" ", "-00000001="+base+" ")
	three := func() (*vdisk.Disk, *seglog.Log) {
		d := laid(t, nil, nil, nil)
		l := open(t, d)
		done(t, l.Sync())
		return d, l
	}
	wantSteps(t, "elder files go from the eldest on", steps(t, three, func(l *seglog.Log) api.Errno { return l.Rebase(1, 1) })[5:],
		"-00000001=0 -00000002=0 -00000003=0 -00000004="+base+" ", "-00000002=0 -00000003=0 -00000004="+base+" ",
		"-00000003=0 -00000004="+base+" ", "-00000004="+base+" ")
}

// wantOut: the Log is out of use; ErrArg is ahead of that, looks go on.
func wantOut(t *testing.T, what string, d *vdisk.Disk, l *seglog.Log, want state) {
	t.Helper()
	d.Cut(-1)
	used, list := d.Used(), names(d)
	for _, c := range changes(l) {
		wantErr(t, what+": "+c.name, c.call(), api.ErrDown)
	}
	wantErr(t, what+": a gap", l.Append(at(999, 1)), api.ErrDown)
	wantErr(t, what+": too many", l.Append(slices.Repeat([]api.Entry{at(l.Last()+1, 1)}, api.MaxLog+1)...), api.ErrDown)
	wantErr(t, what+": no such entry", l.Cut(999), api.ErrDown)
	wantErr(t, what+": below", l.Rebase(max(want.index, 1), 1), api.ErrDown)
	wantErr(t, what+": no entries", l.Append(), api.ErrArg)
	wantErr(t, what+": no entry", l.Append(api.Entry{}), api.ErrArg)
	wantErr(t, what+": no base", l.Rebase(0, 1), api.ErrArg)
	wantErr(t, what+": no term", l.Rebase(99, 0), api.ErrArg)
	wantState(t, what, l, want)
	if d.Used() != used || names(d) != list {
		t.Errorf("%s: written though out of use", what)
	}
}

// P504: behind an error of the disk the Log is out of use, also when the power is back.
func TestOutOfUse(t *testing.T) {
	for i := range 4 {
		d := newDisk(t, 10000)
		l := open(t, d)
		done(t, l.Append(at(1, 1), at(2, 1)), l.Sync(), l.Append(at(3, 1)))
		d.Cut(0)
		c := changes(l)[i]
		wantErr(t, c.name, c.call(), api.ErrPower)
		want := state{list: []api.Entry{at(1, 1), at(2, 1), at(3, 1)}}
		wantOut(t, c.name, d, l, want)
		d.Crash([]int{0, 99})
		wantOut(t, c.name+" and a crash", d, l, want)
	}
}

// P504: a refusal by the log itself does not put it out of use.
func TestInUse(t *testing.T) {
	d := newDisk(t, 10000)
	l := open(t, d)
	l.Append()
	l.Append(at(2, 1))
	l.Cut(1)
	l.Rebase(0, 0)
	l.Append(slices.Repeat([]api.Entry{at(1, 1)}, api.MaxLog+1)...)
	done(t, l.Append(at(1, 1)), l.Rebase(1, 1))
	l.Rebase(1, 1)
	done(t, l.Append(at(2, 1)), l.Cut(2), l.Sync())
}

// P504: no room, for bytes, files or names.
func TestNoRoom(t *testing.T) {
	two := []api.Entry{at(1, 1), at(2, 1)}
	size := len(entryBytes(two...))
	begin := func(room int) (*vdisk.Disk, *seglog.Log) {
		d := newDisk(t, size+room)
		l := open(t, d)
		done(t, l.Append(two...))
		return d, l
	}
	d, l := begin(9)
	wantErr(t, "Append", l.Append(at(3, 1)), api.ErrFull)
	wantOut(t, "Append", d, l, state{list: two})
	d, l = begin(9)
	wantErr(t, "Cut", l.Cut(1), api.ErrFull)
	wantOut(t, "Cut", d, l, state{list: two})
	need := len(baseBytes(1, 1)) + len(entryBytes(at(2, 1)))
	d, l = begin(need - 1)
	wantErr(t, "Rebase", l.Rebase(1, 1), api.ErrFull)
	wantOut(t, "Rebase", d, l, state{list: two})
	if got := names(d); got != "log-00000001 log.tmp" {
		t.Errorf("files: %s", got)
	}
	wantState(t, "opened again", open(t, d), state{list: two})
	if got := names(d); got != "log-00000001" {
		t.Errorf("files: %s", got)
	}
	d, l = begin(need)
	done(t, l.Rebase(1, 1))
	wantState(t, "just enough", open(t, d), state{1, 1, two[1:]})

	for i := range 2 { // Append by a new file, Rebase by log.tmp
		d := newDisk(t, 100000)
		l := open(t, d)
		first := filled(t, api.Segment)
		done(t, l.Append(first))
		for k := len(d.List()); k < api.MaxFiles; k++ {
			done(t, d.Create(fmt.Sprint("other", k)))
		}
		c := changes(l)[2*i]
		wantErr(t, c.name+" among too many files", c.call(), api.ErrFull)
		wantOut(t, c.name, d, l, state{list: []api.Entry{first}})
	}

	d, l = begin(1000)
	lay(t, d, "log.tmp")
	wantErr(t, "a foreign log.tmp", l.Rebase(1, 1), api.ErrThere)
	wantOut(t, "a foreign log.tmp", d, l, state{list: two})

	d, l = begin(1000)
	done(t, d.Remove("log-00000001"))
	wantErr(t, "a file that went", l.Append(at(3, 1)), api.ErrNone)
	wantOut(t, "a file that went", d, l, state{list: two})
}
