package node_test

import (
	"fmt"
	"slices"
	"testing"

	"hustings/api"
	"hustings/node"
	"hustings/raft"
	"hustings/seglog"
	"hustings/snaps"
	"hustings/stable"
	"hustings/vdisk"
)

// P1601: a nil Node, and one that Open did not make.
func TestNobody(t *testing.T) {
	r, _ := raft.New(raft.Options{Least: 5, Beat: 2, Chunk: 9}, raft.Start{ID: 3, Term: 5, For: 2, Servers: []int{3}}, 0)
	for what, n := range map[string]*node.Node{"nil": nil, "not made": {}, "only a raft": {Raft: r}} {
		wantErr(t, what, n.Tick(0), api.ErrArg)
		wantErr(t, what, n.Step(nil, 0), api.ErrArg)
		wantErr(t, what, n.Step(put(t, got(1, 0, 1, 1, 1, true)), 0), api.ErrArg)
		wantErr(t, what, n.Ask(node.Ask{}), api.ErrArg)
		wantErr(t, what, n.Ask(node.Ask{ID: 1, Kind: node.OpenSession}), api.ErrArg)
		if !n.Down() {
			t.Errorf("%s: it is not down", what)
		}
		if len(n.Messages()) != 0 || len(n.Answers()) != 0 || len(n.Servers()) != 0 {
			t.Errorf("%s: it tells something", what)
		}
		if n.Role() != 0 || n.Term() != 0 || n.Leader() != 0 || n.Applied() != 0 || n.Base() != 0 || n.Last() != 0 || n.Next() != 0 {
			t.Errorf("%s: a number is not 0", what)
		}
		if l, e := n.Read(0, 1); len(l) != 0 || e != api.ErrArg {
			t.Errorf("%s: Read: %v, %d", what, l, e)
		}
		if v := n.View(); v.Base != 0 || v.Term != 0 || len(v.L) != 0 {
			t.Errorf("%s: View: %v", what, v)
		}
		if v := n.Vote(); v != (stable.Vote{}) {
			t.Errorf("%s: Vote: %v", what, v)
		}
	}
}

// P1602: options at their edges.
func TestOptions(t *testing.T) {
	with := func(f func(o *node.Options)) node.Options {
		o := usual
		f(&o)
		return o
	}
	for _, c := range []struct {
		o  node.Options
		ok bool
	}{
		{usual, true},
		{node.Options{}, false},
		{with(func(o *node.Options) { o.Least, o.Beat = 2, 1 }), true},
		{with(func(o *node.Options) { o.Least, o.Beat = 1, 1 }), false},
		{with(func(o *node.Options) { o.Least = 1000 }), true},
		{with(func(o *node.Options) { o.Least = 1001 }), false},
		{with(func(o *node.Options) { o.Least = highest }), false},
		{with(func(o *node.Options) { o.Beat = 4 }), true},
		{with(func(o *node.Options) { o.Beat = 5 }), false},
		{with(func(o *node.Options) { o.Beat = 0 }), false},
		{with(func(o *node.Options) { o.Beat = lowest }), false},
		{with(func(o *node.Options) { o.Chunk = 1 }), true},
		{with(func(o *node.Options) { o.Chunk = 0 }), false},
		{with(func(o *node.Options) { o.Chunk = 60000 }), true},
		{with(func(o *node.Options) { o.Chunk = 60001 }), false},
		{with(func(o *node.Options) { o.Span = 1 }), true},
		{with(func(o *node.Options) { o.Span = 0 }), false},
		{with(func(o *node.Options) { o.Span = 1 << 40 }), true},
		{with(func(o *node.Options) { o.Span = 1<<40 + 1 }), false},
		{with(func(o *node.Options) { o.Keep = 1 }), true},
		{with(func(o *node.Options) { o.Keep = 0 }), false},
		{with(func(o *node.Options) { o.Keep = lowest }), false},
		{with(func(o *node.Options) { o.Keep = 1000 }), true},
		{with(func(o *node.Options) { o.Keep = 1001 }), false},
	} {
		d := newDisk(t)
		n, e := node.Open(c.o, 0, []int{0, 1}, d, 0)
		if c.ok && (e != api.OK || n == nil) || !c.ok && (e != api.ErrArg || n != nil) {
			t.Errorf("%v: %v, error %d", c.o, n, e)
		}
	}
}

// P1602: numbers, servers and disks that may not be: ErrArg, ahead of all that is on the disk, which stays as it is.
func TestOpenArguments(t *testing.T) {
	for _, id := range []int{-1, 16, lowest, highest} {
		if n, e := node.Open(usual, id, []int{0}, newDisk(t), 0); n != nil || e != api.ErrArg {
			t.Errorf("%d: error %d", id, e)
		}
	}
	for _, l := range [][]int{{1, 0}, {0, 0}, {-1}, {16}, {0, 1, 2, 3, 4, 5, 6, 7}, {lowest}, {highest}} {
		if n, e := node.Open(usual, 0, l, newDisk(t), 0); n != nil || e != api.ErrArg {
			t.Errorf("%v: error %d", l, e)
		}
	}
	for what, d := range map[string]*vdisk.Disk{"nil": nil, "not made": {}} {
		if n, e := node.Open(usual, 0, []int{0}, d, 0); n != nil || e != api.ErrArg {
			t.Errorf("%s: error %d", what, e)
		}
	}
	d := newDisk(t)
	for _, name := range []string{"snap.tmp", "log.tmp", "vote"} {
		d.Create(name)
	}
	d.Cut(0)
	before := files(d)
	for _, o := range []node.Options{{}, keeping(0)} {
		if n, e := node.Open(o, 0, []int{0}, d, 0); n != nil || e != api.ErrArg || files(d) != before || d.Down() {
			t.Errorf("%v: error %d, %s", o, e, files(d))
		}
	}
	if n, e := node.Open(usual, 16, []int{0}, d, 0); n != nil || e != api.ErrArg || files(d) != before || d.Down() {
		t.Errorf("error %d, %s", e, files(d))
	}
}

// P1602: an empty disk: it follows, nothing is applied, and its servers are those that it is handed, or none. Nothing is written.
func TestOpenEmpty(t *testing.T) {
	for _, servers := range [][]int{nil, {}, {0}, {3}, {0, 1, 2}, {9, 10, 11, 12, 13, 14, 15}} {
		for _, id := range []int{0, 3, 15} {
			for _, draw := range []int{0, -1, lowest, highest} {
				d := newDisk(t)
				n, e := node.Open(usual, id, servers, d, draw)
				wantErr(t, "Open", e, api.OK)
				wantLooks(t, n, raft.Follows, 0, -1, 0, 0, 0)
				if n.ID() != id || !slices.Equal(n.Servers(), servers) || n.Vote() != (stable.Vote{For: -1}) || n.Down() || len(d.List()) != 0 {
					t.Errorf("%s; %s", looks(n), files(d))
				}
				wantRecords(t, n)
				wantLetters(t, n)
				wantAnswers(t, n)
			}
		}
	}
}

// P1602: its timer's first limit is the draw's.
func TestOpenDraw(t *testing.T) {
	for draw, limit := range map[int]int{0: 5, 3: 8, 5: 5, 9: 9, -1: 9} {
		n, e := node.Open(usual, 0, []int{0}, newDisk(t), draw)
		wantErr(t, "Open", e, api.OK)
		tick(t, n, limit-1)
		wantLooks(t, n, raft.Follows, 0, -1, 0, 0, 0)
		tick(t, n, 1)
		wantLooks(t, n, raft.Leads, 1, 0, 1, 0, 1)
	}
}

// P1602: the state that a disk tells: the vote and the log; nothing of it is applied yet.
func TestOpenLog(t *testing.T) {
	d := newDisk(t)
	l := []api.Entry{none(1, 1), opens(1, 2), listed(2, 3, 0, 1, 2), puts(3, 4, 2, 1, "x")}
	lay(t, d, stable.Vote{Term: 4, For: 2}, 0, 0, l...)
	n := opened(t, usual, 1, []int{0, 1}, d)
	wantLooks(t, n, raft.Follows, 4, -1, 0, 0, 4)
	if n.Vote() != (stable.Vote{Term: 4, For: 2}) || row(n.View().L) != row(l) || !slices.Equal(n.Servers(), []int{0, 1, 2}) {
		t.Error(looks(n))
	}
	wantRecords(t, n)
	step(t, n, appends(0, 1, 4, 4, 3, 4, 1))
	wantLooks(t, n, raft.Follows, 4, 0, 4, 0, 4)
	wantRecords(t, n, "x")
}

// P1602: the state that a disk tells: the snapshot is the base, with its servers, not those that are handed in, and its machine.
func TestOpenSnapshot(t *testing.T) {
	l := []api.Entry{none(1, 1), opens(1, 2), puts(2, 3, 2, 1, "x")}
	s := snapshot(t, []int{1, 2, 3}, l...)
	tail := []api.Entry{puts(2, 4, 2, 2, "y"), none(4, 5)}
	for _, servers := range [][]int{nil, {0, 1}} {
		d := newDisk(t)
		lay(t, d, stable.Vote{Term: 4, For: -1}, 3, 2, tail...)
		wantErr(t, "Save", snaps.Save(d, s), api.OK)
		n := opened(t, usual, 1, servers, d)
		wantLooks(t, n, raft.Follows, 4, -1, 3, 3, 5)
		if row(n.View().L) != row(tail) || n.View().Term != 2 || !slices.Equal(n.Servers(), []int{1, 2, 3}) {
			t.Error(looks(n))
		}
		wantRecords(t, n, "x")
		step(t, n, appends(2, 1, 4, 5, 4, 5, 1))
		wantLooks(t, n, raft.Follows, 4, 2, 5, 3, 5)
		wantRecords(t, n, "x", "y")
	}
}

// P1602: where the log's base is below the snapshot's the log is Rebased to it first: entries behind it stay, if they go on from it.
func TestOpenRebases(t *testing.T) {
	l := []api.Entry{none(1, 1), opens(1, 2), puts(2, 3, 2, 1, "x"), puts(2, 4, 2, 2, "y")}
	s := snapshot(t, []int{0, 1}, l[:3]...)
	for _, c := range []struct {
		what string
		s    snaps.Snapshot
		base int
		log  []api.Entry
		stay []api.Entry
	}{
		{"it goes on", s, 0, l, l[3:]},
		{"it goes on from a base", s, 1, l[1:], l[3:]},
		{"it ends there", s, 0, l[:3], nil},
		{"it ends ahead of it", s, 0, l[:2], nil},
		{"it is empty", s, 0, nil, nil},
		{"another term", s, 0, []api.Entry{none(1, 1), none(1, 2), none(1, 3), none(1, 4)}, nil},
	} {
		d := newDisk(t)
		lay(t, d, stable.Vote{Term: 2, For: -1}, c.base, c.base, c.log...)
		wantErr(t, "Save", snaps.Save(d, c.s), api.OK)
		n := opened(t, usual, 0, []int{7}, d)
		wantLooks(t, n, raft.Follows, 2, -1, 3, 3, 3+len(c.stay))
		if row(n.View().L) != row(c.stay) {
			t.Errorf("%s: %s", c.what, looks(n))
		}
		wantRecords(t, n, "x")
		wantDisk(t, d, stable.Vote{Term: 2, For: -1}, 3, 3, c.stay...)
		d.Crash(nil)
		wantDisk(t, d, stable.Vote{Term: 2, For: -1}, 3, 3, c.stay...)
	}
}

// above: a disk whose log begins at a base above its snapshot's (that of l; none: there is no snapshot), and has no entries.
func above(t *testing.T, v stable.Vote, base, term int, l ...api.Entry) *vdisk.Disk {
	t.Helper()
	d := newDisk(t)
	lay(t, d, v, base, term)
	if len(l) > 0 {
		wantErr(t, "Save", snaps.Save(d, snapshot(t, []int{0, 1}, l...)), api.OK)
	}
	return d
}

// P1602: where the log has no entries its base does not matter, though it is above the snapshot's: the snapshot is the base, or 0. Nothing is written.
func TestOpenLogAbove(t *testing.T) {
	l := []api.Entry{none(1, 1), opens(1, 2), puts(2, 3, 2, 1, "x")}
	for _, term := range []int{1, 2, 3, 9, api.MaxTerm - 1} {
		for _, base := range []int{1, 4, 5, api.MaxLog + 5, 1 << 39, 1<<40 - 1} {
			d := above(t, stable.Vote{For: -1}, base, term)
			before := files(d)
			n := opened(t, usual, 2, []int{2}, d)
			wantLooks(t, n, raft.Follows, 0, -1, 0, 0, 0)
			if n.Vote() != (stable.Vote{For: -1}) || !slices.Equal(n.Servers(), []int{2}) || files(d) != before {
				t.Errorf("base %d: %s; %s", base, looks(n), files(d))
			}
			wantRecords(t, n)
			if base < 4 {
				continue
			}
			d = above(t, stable.Vote{Term: 2, For: 1}, base, term, l...)
			before = files(d)
			n = opened(t, usual, 1, []int{1, 7}, d)
			wantLooks(t, n, raft.Follows, 2, -1, 3, 3, 3)
			if n.Vote() != (stable.Vote{Term: 2, For: 1}) || !slices.Equal(n.Servers(), []int{0, 1}) || n.View().Term != 2 || files(d) != before {
				t.Errorf("base %d, above a snapshot: %s; %s", base, looks(n), files(d))
			}
			wantRecords(t, n, "x")
		}
	}
}

// P1602, P1604, P1605: such a node answers as any other, till there is an entry, which such a log can't take: it is down then, and tells nothing of it.
func TestLogAboveTakesNoEntry(t *testing.T) {
	v := stable.Vote{Term: 1, For: -1}
	for _, l := range [][]api.Entry{{none(1, 1)}, {none(1, 1), none(1, 2), none(1, 3), none(1, 4), none(1, 5), none(1, 6)}} {
		d := above(t, v, 5, 1)
		n := opened(t, usual, 0, []int{0, 1}, d)
		step(t, n, appends(1, 0, 1, 0, 0, 0, 1), appends(1, 0, 1, 5, 1, 5, 1))
		wantLetters(t, n, got(0, 1, 1, 0, 1, true), got(0, 1, 1, 1, 1, false))
		before := files(d)
		step(t, n, appends(1, 0, 1, 0, 0, 1, 1, l...))
		if !n.Down() || files(d) != before {
			t.Errorf("%s; %s", looks(n), files(d))
		}
		wantLetters(t, n)
		wantLooks(t, opened(t, usual, 0, []int{0, 1}, d), raft.Follows, 1, -1, 0, 0, 0)
	}
	// One that is alone stands, but can't lead.
	d := above(t, v, 5, 1)
	n := opened(t, usual, 2, []int{2}, d)
	tick(t, n, 5)
	if !n.Down() {
		t.Error(looks(n))
	}
	wantDisk(t, d, stable.Vote{Term: 2, For: 2}, 0, 5)
}

// P1604: a leader's snapshot above that base mends it.
func TestLogAboveInstalls(t *testing.T) {
	s, _ := installed(t)
	d := above(t, stable.Vote{Term: 3, For: -1}, 3, 9)
	n := opened(t, usual, 0, []int{0, 1}, d)
	step(t, n, whole(1, 0, 3, s, 7), appends(1, 0, 3, 4, 3, 5, 8, puts(3, 5, 2, 3, "z")))
	wantLetters(t, n, have(0, 1, 3, 4, 7, true), got(0, 1, 3, 5, 8, true))
	wantDisk(t, d, stable.Vote{Term: 3, For: -1}, 4, 4, puts(3, 5, 2, 3, "z"))
	for range 2 {
		wantLooks(t, n, raft.Follows, 3, 1, 5, 4, 5)
		wantRecords(t, n, "x", "y", "z")
		d.Crash(nil)
		n = opened(t, usual, 0, []int{0, 1}, d)
		step(t, n, appends(1, 0, 3, 5, 3, 5, 9))
	}
}

// P1602: what is left of a crash is put away; of several snapshots the last one is there.
func TestOpenCleans(t *testing.T) {
	d := newDisk(t)
	l := []api.Entry{none(1, 1), opens(1, 2), puts(1, 3, 2, 1, "x")}
	lay(t, d, stable.Vote{Term: 1, For: -1}, 2, 1, l[2:]...)
	wantErr(t, "Save", snaps.Save(d, snapshot(t, []int{0}, l[:2]...)), api.OK)
	b, _ := snaps.Put(snapshot(t, []int{0}, l[:1]...))
	d.Create("snap-0000000000001")
	d.Append("snap-0000000000001", b)
	d.Create("snap-0000000000009") // of no Snapshot: it goes, too
	d.Create("snap.tmp")
	d.Create("log.tmp")
	d.Create("other")
	n := opened(t, usual, 0, nil, d)
	wantLooks(t, n, raft.Follows, 1, -1, 2, 2, 3)
	if want := []string{"log-00000001", "other", "snap-0000000000002", "vote"}; !slices.Equal(d.List(), want) {
		t.Errorf("%v, not %v", d.List(), want)
	}
}

// P1602: an error of the disk is answered, at each of the changes that Open makes, and what is there then is opened the next time.
func TestOpenWithoutPower(t *testing.T) {
	l := []api.Entry{none(1, 1), opens(1, 2), puts(1, 3, 2, 1, "x"), puts(1, 4, 2, 2, "y")}
	for fuse := 0; ; fuse++ {
		d := newDisk(t)
		lay(t, d, stable.Vote{Term: 1, For: -1}, 0, 0, l...)
		wantErr(t, "Save", snaps.Save(d, snapshot(t, []int{0}, l[:3]...)), api.OK)
		d.Create("snap.tmp")
		d.Create("log.tmp")
		d.Cut(fuse)
		n, e := node.Open(usual, 0, nil, d, 0)
		if e == api.OK {
			if fuse < 6 {
				t.Errorf("Open made only %d changes", fuse)
			}
			return
		}
		if n != nil || e != api.ErrPower {
			t.Fatalf("fuse %d: %v, error %d", fuse, n, e)
		}
		d.Crash([]int{fuse, 1, 1, 1, 1})
		n = opened(t, usual, 0, nil, d)
		wantLooks(t, n, raft.Follows, 1, -1, 3, 3, 4)
		wantRecords(t, n, "x")
	}
}

// P1602: a disk without room for what Open writes.
func TestOpenFull(t *testing.T) {
	d, _ := vdisk.New(300)
	l := []api.Entry{none(1, 1), opens(1, 2), puts(1, 3, 2, 1, "x"), puts(1, 4, 2, 2, "y")}
	lay(t, d, stable.Vote{Term: 1, For: -1}, 0, 0, l...)
	wantErr(t, "Save", snaps.Save(d, snapshot(t, []int{0}, l[:2]...)), api.OK)
	d.Create("other")
	d.Append("other", make([]byte, 300-d.Used()))
	if n, e := node.Open(usual, 0, nil, d, 0); n != nil || e != api.ErrFull {
		t.Errorf("%v, error %d", n, e)
	}
}

// P1602: a disk that tells no state that may be: ErrForm.
func TestOpenForm(t *testing.T) {
	l := []api.Entry{none(1, 1), opens(1, 2), puts(2, 3, 2, 1, "x")}
	s := snapshot(t, []int{0, 1}, l...)
	junk := s
	junk.Data = []byte("no machine")
	last := s
	last.Index = 1<<39 + 1
	for what, fill := range map[string]func(d *vdisk.Disk){
		"no vote":                      func(d *vdisk.Disk) { d.Create("vote"); d.Append("vote", []byte("x")) },
		"an entry above the term":      func(d *vdisk.Disk) { lay(t, d, stable.Vote{Term: 1, For: -1}, 0, 0, l...) },
		"entries without a vote":       func(d *vdisk.Disk) { lay(t, d, stable.Vote{For: -1}, 0, 0, l[:1]...) },
		"a snapshot above the term":    func(d *vdisk.Disk) { stable.Save(d, stable.Vote{Term: 1, For: -1}); snaps.Save(d, s) },
		"a snapshot without a vote":    func(d *vdisk.Disk) { snaps.Save(d, s) },
		"no machine":                   func(d *vdisk.Disk) { stable.Save(d, stable.Vote{Term: 9, For: -1}); snaps.Save(d, junk) },
		"a base that is too high":      func(d *vdisk.Disk) { stable.Save(d, stable.Vote{Term: 9, For: -1}); snaps.Save(d, last) },
		"a gap, without a snapshot":    func(d *vdisk.Disk) { lay(t, d, stable.Vote{Term: 9, For: -1}, 2, 1, l[2:]...) },
		"a gap, above the snapshot":    func(d *vdisk.Disk) { lay(t, d, stable.Vote{Term: 9, For: -1}, 4, 2, none(3, 5)); snaps.Save(d, s) },
		"a term that falls behind it":  func(d *vdisk.Disk) { lay(t, d, stable.Vote{Term: 9, For: -1}, 3, 1, none(1, 4)); snaps.Save(d, s) },
		"both a bad vote and snapshot": func(d *vdisk.Disk) { d.Create("vote"); snaps.Save(d, junk) },
	} {
		d := newDisk(t)
		fill(d)
		if n, e := node.Open(usual, 0, []int{0, 1}, d, 0); n != nil || e != api.ErrForm {
			t.Errorf("%s: %v, error %d", what, n, e)
		}
	}
}

// P1602: more entries than a log may have are refused, not left out.
func TestOpenTooMany(t *testing.T) {
	for _, more := range []int{0, 1} {
		d := newDisk(t)
		log, _ := seglog.Open(d)
		for i := range api.MaxLog {
			wantErr(t, "Append", log.Append(none(1, i+1)), api.OK)
		}
		wantErr(t, "Sync", log.Sync(), api.OK)
		wantErr(t, "Save", stable.Save(d, stable.Vote{Term: 1, For: -1}), api.OK)
		if more > 0 {
			// A log that was opened with a base goes on where another one's files end.
			other := newDisk(t)
			end, _ := seglog.Open(other)
			wantErr(t, "Rebase", end.Rebase(api.MaxLog, 1), api.OK)
			wantErr(t, "Append", end.Append(none(1, api.MaxLog+1)), api.OK)
			b, _ := other.Read("log-00000001")
			b = b[len(b)-recordSize(t):]
			d.Create("log-99999999")
			d.Append("log-99999999", b)
		}
		n, e := node.Open(usual, 0, []int{0}, d, 0)
		if more == 0 && (e != api.OK || n.Last() != api.MaxLog) || more > 0 && (n != nil || e != api.ErrForm) {
			t.Errorf("%d too many: %v, error %d", more, n, e)
		}
	}
}

// recordSize: how many bytes the entry behind the last one takes.
func recordSize(t *testing.T) int {
	t.Helper()
	sizes := []int{}
	for _, l := range [][]api.Entry{nil, {none(1, api.MaxLog+1)}} {
		d := newDisk(t)
		log, _ := seglog.Open(d)
		wantErr(t, "Rebase", log.Rebase(api.MaxLog, 1), api.OK)
		if len(l) > 0 {
			wantErr(t, "Append", log.Append(l...), api.OK)
		}
		sizes = append(sizes, d.Used())
	}
	return sizes[1] - sizes[0]
}

// Example: one server alone leads at its timer's limit, and a session's number is 2.
func Example() {
	d, _ := vdisk.New(100000)
	n, _ := node.Open(node.Options{Least: 5, Beat: 2, Chunk: 100, Span: 1000, Keep: 100}, 0, []int{0}, d, 0)
	for range 5 {
		n.Tick(0)
	}
	n.Ask(node.Ask{ID: 1, Kind: node.OpenSession})
	fmt.Println(n.Role() == raft.Leads, n.Answers()[0].Session)
	// Output: true 2
}
