package snaps_test

import (
	"bytes"
	"fmt"
	"slices"
	"testing"

	"hustings/api"
	"hustings/snaps"
	"hustings/vdisk"
)

// foreign: names that no Snapshot's file has, though each is near to one.
var foreign = []string{
	"snap-", "snap", "snap-5", "snap-000000000005", "snap-00000000000005", "snap-000000000000a", "snap-00000000000-5", "snap-000000000+005",
	"snap-00000000000:5", "snap-000000000000/", "snap-000000000001/", "snap-00000000001-5", "snap-000000000000:", "Snap-0000000000005", "snap_0000000000005", "xsnap-0000000000005",
	"snap-0000000000005.tmp", "snap-0000000000000", "snap-1099511627776", "snap-9999999999999", "snap.tm", "snap.tmp2", "vote", "vote.tmp", "log-00000001", "log.tmp",
}

// P701: a disk that is nil, or was not made.
func TestNoDisk(t *testing.T) {
	for what, d := range map[string]*vdisk.Disk{"nil": nil, "not made": {}} {
		if s, ok, e := snaps.Load(d); !zero(s) || ok || e != api.ErrArg {
			t.Errorf("%s: Load: %s, %v, %d", what, short(s), ok, e)
		}
		wantErr(t, what+": Clean", snaps.Clean(d), api.ErrArg)
		for _, s := range []snaps.Snapshot{at(5), at(0), {}} {
			wantErr(t, what+": Save", snaps.Save(d, s), api.ErrArg)
		}
	}
}

// P703: without a Snapshot's file there is none, whatever else is there.
func TestLoadNone(t *testing.T) {
	d := newDisk(t, 10000)
	wantNone(t, "an empty disk", d)
	for _, name := range append(foreign, "snap.tmp") {
		lay(t, d, name, snapBytes(at(5)))
		wantNone(t, name, d)
	}
	for _, index := range []int{0, 1 << 40, 9999999999999} {
		d := newDisk(t, 10000)
		lay(t, d, named(index), snapBytes(at(index)))
		wantNone(t, named(index), d)
	}
}

// P703: the one that a file tells, whatever may be in it.
func TestLoad(t *testing.T) {
	for _, s := range right() {
		d := newDisk(t, 100000)
		lay(t, d, named(s.Index), snapBytes(s))
		wantLoad(t, "laid", d, s)
	}
}

// P703: of several the last one by name, whenever it was laid.
func TestLoadLast(t *testing.T) {
	for _, indexes := range [][]int{{5, 9}, {9, 5}, {9, 10}, {10, 9}, {1, 1000, 999}, {99999, 100000, 1}, {lastIndex, lastIndex - 1}, {1, 1 << 39, 2}} {
		d := newDisk(t, 10000)
		for _, index := range indexes {
			lay(t, d, named(index), snapBytes(at(index)))
		}
		wantLoad(t, fmt.Sprint(indexes), d, at(slices.Max(indexes)))
	}
}

// P703: files that tell no Snapshot, or one of another index, are passed over; nothing changes.
func TestLoadPasses(t *testing.T) {
	for _, b := range append(notSnaps(), snapBytes(at(5)), snapBytes(at(8)), snapBytes(at(10))) {
		d := newDisk(t, 1<<18)
		lay(t, d, named(9), b)
		wantNone(t, "bytes that are not its own", d)
		lay(t, d, named(5), snapBytes(at(5)))
		lay(t, d, named(7), []byte("other"))
		lay(t, d, "snap.tmp", snapBytes(at(11)))
		before := files(t, d)
		wantLoad(t, fmt.Sprintf("passing over %.40x", b), d, at(5))
		wantFiles(t, "Load", d, before)
	}
}

// P703: Load goes on without power, and uses up none.
func TestLoadWithoutPower(t *testing.T) {
	d := newDisk(t, 1000)
	lay(t, d, named(5), snapBytes(at(5)))
	d.Cut(0)
	wantLoad(t, "at the end of the fuse", d, at(5))
	if d.Down() {
		t.Error("Load made a change")
	}
	wantErr(t, "SyncDir", d.SyncDir(), api.ErrPower)
	wantLoad(t, "without power", d, at(5))
}

// The chapter's examples.
func TestExamples(t *testing.T) {
	d := newDisk(t, 1000)
	done(t, snaps.Save(d, at(5)))
	wantErr(t, "Save 5 again", snaps.Save(d, at(5)), api.ErrBelow)
	wantLoad(t, "5", d, at(5))
	done(t, snaps.Save(d, at(9)))
	wantLoad(t, "9", d, at(9))
	wantNames(t, "9", d, "snap-0000000000009")
}

// P703: what is saved is loaded, and is the only one.
func TestSave(t *testing.T) {
	for _, s := range right() {
		d := newDisk(t, 200000)
		if s.Index > 1 {
			done(t, snaps.Save(d, at(1)))
		}
		done(t, snaps.Save(d, s))
		wantLoad(t, "saved", d, s)
		wantFiles(t, "saved", d, fmt.Sprintf("%s=%x", named(s.Index), snapBytes(s)))
	}
	d := newDisk(t, 1000)
	for _, index := range []int{1, 2, 9, 10, 11, 99, 100, 1 << 39, lastIndex - 1, lastIndex} {
		done(t, snaps.Save(d, at(index)))
		wantLoad(t, "rising", d, at(index))
		wantNames(t, "rising", d, named(index))
	}
}

// refused: each Save answers that error, and no step is done; power or none.
func refused(t *testing.T, d *vdisk.Disk, want api.Errno, l ...snaps.Snapshot) {
	t.Helper()
	before := files(t, d)
	d.Cut(0)
	for _, s := range l {
		wantErr(t, "Save "+short(s), snaps.Save(d, s), want)
	}
	if d.Down() {
		t.Error("a step was done")
	}
	wantErr(t, "SyncDir", d.SyncDir(), api.ErrPower)
	for _, s := range l {
		wantErr(t, "Save without power "+short(s), snaps.Save(d, s), want)
	}
	wantFiles(t, "refused", d, before)
}

// P703: a Snapshot that may not be is not saved, whatever its index is.
func TestSaveRefuses(t *testing.T) {
	for _, index := range []int{1, 5, 9} {
		d := newDisk(t, 1000)
		done(t, snaps.Save(d, at(index)))
		lay(t, d, "snap.tmp", []byte("rest"))
		refused(t, d, api.ErrArg, wrong()...)
	}
}

// P703: one that is not above the present one is not saved, whatever else is in it.
func TestSaveBelow(t *testing.T) {
	d := newDisk(t, 1000)
	done(t, snaps.Save(d, at(9)))
	lay(t, d, "snap.tmp", []byte("rest"))
	lay(t, d, named(5), snapBytes(at(5)))
	lay(t, d, named(20), []byte("other"))
	later := at(8)
	later.Term, later.Data = 7, []byte("more")
	refused(t, d, api.ErrBelow, at(1), at(4), at(5), at(6), later, at(9))
}

// P703: only the present one counts: one may be saved at or below files that tell none, which go, too.
func TestSaveOverOthers(t *testing.T) {
	d := newDisk(t, 10000)
	lay(t, d, named(3), snapBytes(at(3)))
	lay(t, d, named(4), snapBytes(at(4)))
	lay(t, d, named(5), []byte("other"))
	lay(t, d, named(9), snapBytes(at(8)))
	lay(t, d, named(lastIndex), nil)
	lay(t, d, "snap.tmp", snapBytes(at(7)))
	done(t, snaps.Save(d, at(5)))
	wantLoad(t, "saved", d, at(5))
	wantNames(t, "saved", d, named(5))
	d.Crash(nil)
	wantLoad(t, "saved, crashed", d, at(5))
}

// P703: Save and Clean leave the files that are not of Snapshots as they are.
func TestForeignStay(t *testing.T) {
	d := newDisk(t, 10000)
	for _, name := range foreign {
		lay(t, d, name, snapBytes(at(5)))
	}
	before := files(t, d)
	done(t, snaps.Clean(d))
	wantFiles(t, "Clean without one", d, before)
	done(t, snaps.Save(d, at(5)), snaps.Save(d, at(6)), snaps.Clean(d))
	wantLoad(t, "saved", d, at(6))
	wantNames(t, "saved", d, slices.Sorted(slices.Values(append(slices.Clone(foreign), named(6))))...)
	done(t, d.Remove(named(6)))
	wantFiles(t, "all but that one", d, before)
}

// P703: the steps, one by one, as the power going behind each of them shows.
func TestSaveSteps(t *testing.T) {
	was, is := fmt.Sprintf("%s=%x", named(5), snapBytes(at(5))), fmt.Sprintf("%s=%x", named(9), snapBytes(at(9)))
	whole := fmt.Sprintf(" snap.tmp=%x", snapBytes(at(9)))
	steps := []string{was + " snap.tmp=72657374", was, was + " snap.tmp=", was + whole, was + whole, was + " " + is, was + " " + is, is}
	for _, rest := range []bool{true, false} {
		for n, want := range steps {
			if !rest && n == 0 {
				continue
			}
			d := newDisk(t, 1000)
			done(t, snaps.Save(d, at(5)))
			if rest {
				lay(t, d, "snap.tmp", []byte("rest"))
				d.Cut(n)
			} else {
				d.Cut(n - 1)
			}
			wantE := api.ErrPower
			if n == len(steps)-1 {
				wantE = api.OK
			}
			wantErr(t, fmt.Sprint("Save, power for ", n), snaps.Save(d, at(9)), wantE)
			wantFiles(t, fmt.Sprint("power for ", n), d, want)
		}
	}
}

// P703: what each step has made sure of, as a crash that keeps as little as it may shows.
func TestSaveSyncs(t *testing.T) {
	whole := fmt.Sprintf("%x", snapBytes(at(9)))
	for n, want := range []string{"", "snap.tmp=", "snap.tmp=", "snap.tmp=" + whole, named(9) + "=" + whole} {
		d := newDisk(t, 1000)
		d.Cut(n)
		wantErr(t, "Save", snaps.Save(d, at(9)), api.ErrPower)
		d.Crash([]int{-1}) // all names, no bytes that are not synced
		wantFiles(t, fmt.Sprint("power for ", n), d, want)
	}
	d := newDisk(t, 1000)
	lay(t, d, named(3), snapBytes(at(3)))
	done(t, snaps.Save(d, at(9)))
	d.Crash(nil)
	wantNames(t, "saved, the removal not sure", d, named(3), named(9))
	wantLoad(t, "saved", d, at(9))
}

// P703: a disk without room: the first error, and the elder one is there still.
func TestSaveFull(t *testing.T) {
	size := len(snapBytes(at(5)))
	d := newDisk(t, 2*size-1)
	done(t, snaps.Save(d, at(5)))
	wantErr(t, "Save without room for bytes", snaps.Save(d, at(9)), api.ErrFull)
	wantFiles(t, "no room", d, fmt.Sprintf("%s=%x snap.tmp=", named(5), snapBytes(at(5))))
	wantErr(t, "Save again", snaps.Save(d, at(9)), api.ErrFull)
	wantLoad(t, "no room", d, at(5))
	d.Crash([]int{-1, -1, -1})
	wantLoad(t, "no room, crashed", d, at(5))

	d = newDisk(t, 2*size)
	done(t, snaps.Save(d, at(5)), snaps.Save(d, at(6)))
	wantLoad(t, "just room", d, at(6))
	// What is left of another Save does not stand in the way.
	lay(t, d, "snap.tmp", make([]byte, size))
	done(t, snaps.Save(d, at(7)))
	wantLoad(t, "just room again", d, at(7))
}

// P703: a disk without room for a name, unless snap.tmp is one of them.
func TestSaveManyFiles(t *testing.T) {
	d := newDisk(t, 1000)
	done(t, snaps.Save(d, at(5)))
	for i := range api.MaxFiles - 1 {
		done(t, d.Create(fmt.Sprint("f", i)))
	}
	wantErr(t, "Save without room for a name", snaps.Save(d, at(9)), api.ErrFull)
	wantLoad(t, "no room", d, at(5))
	done(t, d.Rename("f0", "snap.tmp"), snaps.Save(d, at(9)))
	wantLoad(t, "its own name", d, at(9))
	if len(d.List()) != api.MaxFiles-1 {
		t.Error(len(d.List()), "files")
	}
}

// many: a disk full of files of Snapshots, with a rest of a Save.
func many(t *testing.T) *vdisk.Disk {
	t.Helper()
	d := newDisk(t, 100000)
	for i := range api.MaxFiles - 1 {
		name, b := named(i+1), snapBytes(at(i+1))
		if i >= 300 {
			b = bytes.Clone(b[:len(b)-1])
		}
		done(t, d.Create(name), d.Append(name, b), d.Sync(name))
	}
	lay(t, d, "snap.tmp", []byte("rest"))
	return d
}

// P703: Clean leaves the present one alone, and changes nothing where there is nothing else.
func TestClean(t *testing.T) {
	d := newDisk(t, 1000)
	done(t, snaps.Clean(d))
	lay(t, d, "snap.tmp", snapBytes(at(5)))
	done(t, snaps.Clean(d))
	wantNames(t, "a rest alone", d)
	lay(t, d, named(5), []byte("other"))
	lay(t, d, named(9), snapBytes(at(8)))
	done(t, snaps.Clean(d))
	wantNames(t, "none that is one", d)

	d = many(t)
	done(t, snaps.Clean(d))
	wantFiles(t, "of many", d, fmt.Sprintf("%s=%x", named(300), snapBytes(at(300))))
	wantLoad(t, "of many", d, at(300))
	d.Cut(0)
	done(t, snaps.Clean(d))
	wantErr(t, "SyncDir", d.SyncDir(), api.ErrPower)
	done(t, snaps.Clean(d))
	wantLoad(t, "without power", d, at(300))

	d = many(t)
	done(t, snaps.Save(d, at(301)))
	wantFiles(t, "of many, saved", d, fmt.Sprintf("%s=%x", named(301), snapBytes(at(301))))
}

// P703: Clean makes as many changes as there are files to remove, the rest of a Save first, and tells the first error.
func TestCleanSteps(t *testing.T) {
	for n := range 5 {
		d := newDisk(t, 1000)
		lay(t, d, named(3), snapBytes(at(3)))
		lay(t, d, named(5), snapBytes(at(5)))
		lay(t, d, named(9), []byte("other"))
		lay(t, d, "snap.tmp", []byte("rest"))
		d.Cut(n)
		wantE := api.ErrPower
		if n >= 3 {
			wantE = api.OK
		}
		what := fmt.Sprint("Clean, power for ", n)
		wantErr(t, what, snaps.Clean(d), wantE)
		wantLoad(t, what, d, at(5))
		if left := len(d.List()); left != max(4-n, 1) {
			t.Errorf("%s: %d files are left", what, left)
		}
		if rest := slices.Contains(d.List(), "snap.tmp"); rest != (n == 0) {
			t.Errorf("%s: is the rest there? %v", what, rest)
		}
		d.Crash(nil)
		wantLoad(t, what+", crashed", d, at(5))
		wantNames(t, what+", no removal sure", d, named(3), named(5), named(9), "snap.tmp")
	}
}
