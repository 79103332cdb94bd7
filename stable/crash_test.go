package stable_test

import (
	"fmt"
	"math/rand"
	"slices"
	"testing"

	"hustings/api"
	"hustings/stable"
	"hustings/vdisk"
)

// The chapter's example.
func TestExample(t *testing.T) {
	d := newDisk(t, 1000)
	done(t, stable.Save(d, stable.Vote{Term: 3, For: 2}))
	d.Crash(nil)
	wantLoad(t, "example", d, stable.Vote{Term: 3, For: 2})
}

// mayBe: which Votes a crash may leave: the last one that is sure, and one that was begun behind it.
type mayBe []stable.Vote

// save: a Save, and what may be behind it. One that finds the power gone has not begun: the moment of the crash was ahead of it.
func save(d *vdisk.Disk, m mayBe, v stable.Vote) (mayBe, api.Errno) {
	gone := d.Down()
	e := stable.Save(d, v)
	switch {
	case e == api.OK:
		return mayBe{v}, e
	case gone:
		return m, e
	}
	return mayBe{m[0], v}, e
}

// found: what Load tells behind a crash is one of those that may be, and sure from then on.
func found(t *testing.T, what string, d *vdisk.Disk, m mayBe) mayBe {
	t.Helper()
	v, e := stable.Load(d)
	if e != api.OK || !slices.Contains(m, v) {
		t.Fatalf("%s: Load: %v, %d, may be %v", what, v, e, m)
	}
	return mayBe{v}
}

// crashes: all choices that tell something of a disk with at most so many changes and two files.
func crashes() [][]int {
	var l [][]int
	for names := range 6 {
		for bytes := range 15 {
			l = append(l, []int{names, bytes, bytes}, []int{names, 0, bytes}, []int{names, bytes})
		}
	}
	return l
}

// P604: the power goes behind each step of a Save, with each choice, from each beginning, and again in the next Save.
func TestLasts(t *testing.T) {
	first, second, third := stable.Vote{Term: 1, For: 0}, stable.Vote{Term: 2, For: -1}, stable.Vote{Term: 2, For: 7}
	beginnings := map[string]func(d *vdisk.Disk) mayBe{
		"empty": func(d *vdisk.Disk) mayBe { return mayBe{{For: -1}} },
		"saved": func(d *vdisk.Disk) mayBe {
			done(t, stable.Save(d, first))
			return mayBe{first}
		},
		"rest": func(d *vdisk.Disk) mayBe {
			done(t, stable.Save(d, first))
			lay(t, d, "vote.tmp", []byte("rest of a Save"))
			return mayBe{first}
		},
		"names not synced": func(d *vdisk.Disk) mayBe {
			done(t, stable.Save(d, first), d.Create("a"), d.Append("a", []byte("xy")), d.Create("vote.tmp"))
			return mayBe{first}
		},
	}
	for what, begin := range beginnings {
		for n := range 8 {
			for _, choices := range crashes() {
				for again := range 7 {
					name := fmt.Sprintf("%s, power for %d, %v, then %d", what, n, choices, again)
					d := newDisk(t, 1000)
					m := begin(d)
					d.Cut(n)
					m, _ = save(d, m, second)
					d.Crash(choices)
					m = found(t, name, d, m)
					d.Cut(again)
					m, _ = save(d, m, third)
					d.Crash(choices)
					found(t, name+" again", d, m)
				}
			}
		}
	}
}

// P604: both of them come about, where the power goes ahead of the last step.
func TestBothMayBe(t *testing.T) {
	elder, next := stable.Vote{Term: 1, For: 0}, stable.Vote{Term: 2, For: 1}
	for names, want := range []stable.Vote{elder, elder, next} {
		d := newDisk(t, 1000)
		done(t, stable.Save(d, elder))
		d.Cut(4)
		wantErr(t, "Save", stable.Save(d, next), api.ErrPower)
		d.Crash([]int{names})
		wantLoad(t, fmt.Sprint("names ", names), d, want)
	}
}

// P604: a Save behind which the power goes without a crash at once, and Saves without power.
func TestWithoutPower(t *testing.T) {
	elder := stable.Vote{Term: 1, For: 0}
	d := newDisk(t, 1000)
	done(t, stable.Save(d, elder))
	d.Cut(0)
	for term := range 5 {
		wantErr(t, "Save", stable.Save(d, stable.Vote{Term: term + 2}), api.ErrPower)
		wantLoad(t, "without power", d, elder)
	}
	d.Crash([]int{-1, -1, -1})
	wantLoad(t, "crashed", d, elder)
}

// P604: long rows of Saves, other files' changes, failures for want of room and crashes.
func TestRows(t *testing.T) {
	for seed := range int64(300) {
		r := rand.New(rand.NewSource(seed))
		d := newDisk(t, 40+r.Intn(60))
		m := mayBe{{For: -1}}
		for step := range 60 {
			what := fmt.Sprintf("seed %d step %d", seed, step)
			switch r.Intn(6) {
			case 0:
				d.Crash([]int{r.Intn(20), r.Intn(20), r.Intn(20), r.Intn(20)})
				m = found(t, what, d, m)
			case 1:
				d.Cut(r.Intn(12) - 1)
			case 2:
				d.Create("a")
				d.Append("a", make([]byte, r.Intn(20)))
			case 3:
				d.Remove("a")
			default:
				v := stable.Vote{Term: r.Intn(1 << 20), For: r.Intn(17) - 1}
				var e api.Errno
				if m, e = save(d, m, v); e == api.OK {
					wantLoad(t, what, d, v)
				}
			}
		}
	}
}
