package snaps_test

import (
	"fmt"
	"math/rand"
	"slices"
	"testing"

	"hustings/api"
	"hustings/snaps"
	"hustings/vdisk"
)

// mayBe: the indexes of the Snapshots that a crash may leave (0: none): the last one that is sure, and one that was begun behind it.
type mayBe []int

// save: a Save, and what may be behind it. One that is refused, or finds the power gone, has not begun: the moment of the crash was ahead of it.
func save(d *vdisk.Disk, m mayBe, s snaps.Snapshot) (mayBe, api.Errno) {
	gone := d.Down()
	e := snaps.Save(d, s)
	switch {
	case e == api.OK:
		return mayBe{s.Index}, e
	case gone || e == api.ErrBelow:
		return m, e
	}
	return mayBe{m[0], s.Index}, e
}

// found: what Load tells behind a crash is one of those that may be, whole, and sure from then on.
func found(t *testing.T, what string, d *vdisk.Disk, m mayBe) mayBe {
	t.Helper()
	s, ok, e := snaps.Load(d)
	if e != api.OK || !slices.Contains(m, s.Index) || ok != (s.Index > 0) || ok && !same(s, at(s.Index)) {
		t.Fatalf("%s: Load: %s, %v, %d, may be %v", what, short(s), ok, e, m)
	}
	return mayBe{s.Index}
}

// crashes: all choices that tell something of a disk with at most so many changes and some files.
func crashes() [][]int {
	var l [][]int
	for names := range 7 {
		for _, bytes := range []int{0, 1, 5, 20, 28, -1} {
			l = append(l, []int{names, bytes, bytes, bytes}, []int{names, 0, bytes}, []int{names, bytes})
		}
	}
	return l
}

// beginnings: disks, each with what may be on it.
func beginnings(t *testing.T) map[string]func(d *vdisk.Disk) mayBe {
	return map[string]func(d *vdisk.Disk) mayBe{
		"empty": func(d *vdisk.Disk) mayBe { return mayBe{0} },
		"saved": func(d *vdisk.Disk) mayBe {
			done(t, snaps.Save(d, at(5)))
			return mayBe{5}
		},
		"removals not sure": func(d *vdisk.Disk) mayBe {
			done(t, snaps.Save(d, at(2)), snaps.Save(d, at(3)), snaps.Save(d, at(5)))
			return mayBe{5}
		},
		"rest": func(d *vdisk.Disk) mayBe {
			done(t, snaps.Save(d, at(5)))
			lay(t, d, "snap.tmp", snapBytes(at(20)))
			return mayBe{5}
		},
		"files that tell none": func(d *vdisk.Disk) mayBe {
			done(t, snaps.Save(d, at(5)))
			for _, index := range []int{6, 9, 12, 20} {
				lay(t, d, named(index), snapBytes(at(7)))
			}
			return mayBe{5}
		},
		"elder ones": func(d *vdisk.Disk) mayBe {
			for _, index := range []int{1, 3, 5} {
				lay(t, d, named(index), snapBytes(at(index)))
			}
			return mayBe{5}
		},
		"names not synced": func(d *vdisk.Disk) mayBe {
			done(t, snaps.Save(d, at(5)), d.Create("a"), d.Append("a", []byte("xy")), d.Create("snap.tmp"))
			return mayBe{5}
		},
	}
}

// P704: the power goes behind each step of a Save, with each choice, from each beginning, in a Clean behind it, and again in the next Save.
func TestLasts(t *testing.T) {
	for what, begin := range beginnings(t) {
		for n := range 12 {
			for _, choices := range crashes() {
				for again := range 9 {
					name := fmt.Sprintf("%s, power for %d, %v, then %d", what, n, choices, again)
					d := newDisk(t, 1000)
					m := begin(d)
					d.Cut(n)
					m, _ = save(d, m, at(9))
					d.Crash(choices)
					m = found(t, name, d, m)
					if again%2 == 1 {
						d.Cut(again)
						snaps.Clean(d)
						found(t, name+" within Clean", d, m)
						d.Crash(choices)
						m = found(t, name+" behind Clean", d, m)
					}
					d.Cut(again)
					m, _ = save(d, m, at(12))
					d.Crash(choices)
					found(t, name+" again", d, m)
				}
			}
		}
	}
}

// P704: both of them come about, where the power goes ahead of the names' sync.
func TestBothMayBe(t *testing.T) {
	for names, want := range []int{5, 5, 9} {
		d := newDisk(t, 1000)
		done(t, snaps.Save(d, at(5)))
		d.Cut(4)
		wantErr(t, "Save", snaps.Save(d, at(9)), api.ErrPower)
		d.Crash([]int{names})
		wantLoad(t, fmt.Sprint("names ", names), d, at(want))
	}
}

// P704: from the names' sync on the new one is sure, also where its Save did not come to its end.
func TestSureAheadOfRemovals(t *testing.T) {
	for names := range 3 {
		d := newDisk(t, 1000)
		lay(t, d, named(3), snapBytes(at(3)))
		lay(t, d, named(5), snapBytes(at(5)))
		d.Cut(6)
		wantErr(t, "Save", snaps.Save(d, at(9)), api.ErrPower)
		d.Crash([]int{names})
		wantLoad(t, fmt.Sprint("names ", names), d, at(9))
	}
}

// P704: Saves without power change nothing.
func TestWithoutPower(t *testing.T) {
	d := newDisk(t, 1000)
	done(t, snaps.Save(d, at(5)))
	d.Cut(0)
	for index := range 5 {
		wantErr(t, "Save", snaps.Save(d, at(index+6)), api.ErrPower)
		wantLoad(t, "without power", d, at(5))
	}
	d.Crash([]int{-1, -1, -1})
	wantLoad(t, "crashed", d, at(5))
}

// P704: long rows of Saves, Cleans, other files' changes, failures for want of room and crashes.
func TestRows(t *testing.T) {
	for seed := range int64(300) {
		r := rand.New(rand.NewSource(seed))
		d := newDisk(t, 60+r.Intn(120))
		m := mayBe{0}
		top := 0
		for step := range 60 {
			what := fmt.Sprintf("seed %d step %d", seed, step)
			switch r.Intn(8) {
			case 0:
				d.Crash([]int{r.Intn(20), r.Intn(40), r.Intn(40), r.Intn(40)})
				m = found(t, what, d, m)
			case 1:
				d.Cut(r.Intn(14) - 1)
			case 2:
				d.Create("a")
				d.Append("a", make([]byte, r.Intn(20)))
			case 3:
				d.Remove("a")
			case 4:
				if e := snaps.Clean(d); e == api.OK && slices.Contains(d.List(), "snap.tmp") {
					t.Fatalf("%s: Clean left %q", what, d.List())
				}
			default:
				s := at(max(1, top+r.Intn(12)-2))
				var e api.Errno
				if m, e = save(d, m, s); e == api.OK {
					wantLoad(t, what, d, s)
				}
				top = max(top, s.Index)
			}
		}
	}
}
