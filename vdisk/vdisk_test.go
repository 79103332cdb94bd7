package vdisk_test

import (
	"fmt"
	"math"
	"slices"
	"strings"
	"testing"

	"hustings/api"
	"hustings/vdisk"
)

func newDisk(t *testing.T, quota int) *vdisk.Disk {
	t.Helper()
	d, e := vdisk.New(quota)
	if d == nil || e != api.OK {
		t.Fatalf("New(%d): %v, %d", quota, d, e)
	}
	return d
}

// done: all calls, made in a row, must have answered OK.
func done(t *testing.T, errs ...api.Errno) {
	t.Helper()
	for i, e := range errs {
		if e != api.OK {
			t.Fatalf("call %d: %d", i, e)
		}
	}
}

func wantErr(t *testing.T, what string, got, want api.Errno) {
	t.Helper()
	if got != want {
		t.Errorf("%s: %d, want %d", what, got, want)
	}
}

// tell: all that the looks tell, as one text: name=bytes, by the names' order.
func tell(t *testing.T, d *vdisk.Disk) string {
	t.Helper()
	var l []string
	sum := 0
	for _, name := range d.List() {
		b, e := d.Read(name)
		if e != api.OK {
			t.Fatalf("Read(%q), which List tells: %d", name, e)
		}
		sum += len(b)
		l = append(l, name+"="+string(b))
	}
	if d.Used() != sum {
		t.Errorf("Used: %d, want %d", d.Used(), sum)
	}
	return strings.Join(l, " ")
}

func wantFiles(t *testing.T, what string, d *vdisk.Disk, want string) {
	t.Helper()
	if got := tell(t, d); got != want {
		t.Errorf("%s: files %q, want %q", what, got, want)
	}
}

// mutators: the six calls that use up a fuse, each as one that finds no other error on a disk with a file a.
func mutators(d *vdisk.Disk) []struct {
	name string
	call func() api.Errno
} {
	return []struct {
		name string
		call func() api.Errno
	}{
		{"Create", func() api.Errno { return d.Create("new") }},
		{"Append", func() api.Errno { return d.Append("a", []byte("!")) }},
		{"Sync", func() api.Errno { return d.Sync("a") }},
		{"SyncDir", d.SyncDir},
		{"Rename", func() api.Errno { return d.Rename("a", "b") }},
		{"Remove", func() api.Errno { return d.Remove("a") }},
	}
}

// P101: a Disk that is nil, or that New did not make.
func TestUnmade(t *testing.T) {
	for what, d := range map[string]*vdisk.Disk{"nil": nil, "zero": {}} {
		for i, e := range []api.Errno{
			d.Create("a"), d.Append("a", []byte("x")), d.Sync("a"), d.SyncDir(), d.Rename("a", "b"), d.Remove("a"), d.Create(""), d.Rename("", ""),
		} {
			wantErr(t, fmt.Sprint(what, i), e, api.ErrArg)
		}
		if b, e := d.Read("a"); len(b) != 0 || e != api.ErrArg {
			t.Error(what, "Read", b, e)
		}
		d.Cut(0)
		d.Crash([]int{1, 2, 3})
		d.Crash(nil)
		if len(d.List()) != 0 || d.Used() != 0 || d.Down() {
			t.Error(what, d.List(), d.Used(), d.Down())
		}
		wantErr(t, what+" behind Crash", d.Create("a"), api.ErrArg)
	}
}

// P101: what is handed in is not changed and not kept, what is answered is new.
func TestMemory(t *testing.T) {
	d := newDisk(t, 100)
	done(t, d.Create("a"), d.Create("b"))
	room := []byte("xyROOM")
	done(t, d.Append("a", room[:2]), d.Append("a", []byte("z")))
	if string(room) != "xyROOM" {
		t.Errorf("Append changed the room behind its argument: %q", room)
	}
	room[0] = '!'
	wantFiles(t, "argument written to", d, "a=xyz b=")

	b, _ := d.Read("a")
	b[0] = '!'
	_ = append(b[:1], "????????"...)
	wantFiles(t, "answer written to", d, "a=xyz b=")
	one, _ := d.Read("a")
	two, _ := d.Read("a")
	one[0] = '!'
	if string(two) != "xyz" {
		t.Errorf("two answers of Read share: %q", two)
	}

	l := d.List()
	l[0] = "other"
	wantFiles(t, "List written to", d, "a=xyz b=")

	choices := []int{-5, 7, math.MinInt, 1}
	d.Crash(choices)
	if !slices.Equal(choices, []int{-5, 7, math.MinInt, 1}) {
		t.Error("Crash changed its choices", choices)
	}
}

// P101: two files, of which one begins as the other one, do not share their bytes behind a crash.
func TestNoFileSharesBytes(t *testing.T) {
	d := newDisk(t, 100)
	done(t, d.Create("a"), d.Append("a", []byte("12345678")), d.SyncDir())
	before, _ := d.Read("a")
	d.Crash([]int{0, 2})
	done(t, d.Append("a", []byte("xyz")))
	if string(before) != "12345678" {
		t.Errorf("an elder answer changed: %q", before)
	}
	wantFiles(t, "append behind lost bytes", d, "a=12xyz")
}

// P102.
func TestNew(t *testing.T) {
	for _, quota := range []int{math.MinInt, -1, 0, api.MaxBytes + 1, math.MaxInt} {
		if d, e := vdisk.New(quota); d != nil || e != api.ErrArg {
			t.Errorf("New(%d): %v, %d", quota, d, e)
		}
	}
	for _, quota := range []int{1, 2, api.MaxBytes - 1, api.MaxBytes} {
		d := newDisk(t, quota)
		if len(d.List()) != 0 || d.Used() != 0 || d.Down() {
			t.Errorf("New(%d) is not empty", quota)
		}
		done(t, d.Create("a"))
		wantErr(t, "more than quota", d.Append("a", make([]byte, quota+1)), api.ErrFull)
		done(t, d.Append("a", make([]byte, quota)))
		wantErr(t, "one more", d.Append("a", []byte{0}), api.ErrFull)
		if d.Used() != quota {
			t.Errorf("Used: %d, want %d", d.Used(), quota)
		}
	}
	d := newDisk(t, 1)
	for range 1000 {
		done(t, d.SyncDir())
	}
	other := newDisk(t, 1)
	done(t, d.Create("a"))
	wantFiles(t, "another disk", other, "")
}

// P103: names that may be, and names that may not be, in all calls.
func TestNames(t *testing.T) {
	bad := []string{"", " ", "a b", "a\n", "\x00", "\x20", "\x7f", "\x80", "\xff", "é", "a\x7f", strings.Repeat("a", 65), strings.Repeat("a", 5000)}
	d := newDisk(t, 10)
	done(t, d.Create("a"), d.Append("a", []byte("x")))
	d.Cut(1) // a name that may not be uses up nothing
	for _, name := range bad {
		for what, e := range map[string]api.Errno{
			"Create": d.Create(name), "Append": d.Append(name, make([]byte, 11)), "Sync": d.Sync(name), "Remove": d.Remove(name),
			"Rename to": d.Rename("a", name), "Rename from": d.Rename(name, "b"), "Rename none to": d.Rename("none", name), "Rename both": d.Rename(name, name),
		} {
			wantErr(t, fmt.Sprintf("%s %q", what, name), e, api.ErrArg)
		}
		if b, e := d.Read(name); len(b) != 0 || e != api.ErrArg {
			t.Errorf("Read %q: %q, %d", name, b, e)
		}
	}
	wantFiles(t, "bad names", d, "a=x")
	done(t, d.SyncDir())

	d = newDisk(t, 10)
	good := []string{"!", "~", "a/b", "..", strings.Repeat("z", 63), strings.Repeat("z", 64)}
	for c := 33; c <= 126; c++ {
		good = append(good, "x"+string(rune(c))+"y")
	}
	for _, name := range good {
		done(t, d.Create(name))
		if b, e := d.Read(name); len(b) != 0 || e != api.OK {
			t.Errorf("Read %q: %q, %d", name, b, e)
		}
	}
	slices.Sort(good)
	if !slices.Equal(d.List(), good) {
		t.Errorf("List: %q, want %q", d.List(), good)
	}
}

// P103: Create.
func TestCreate(t *testing.T) {
	d := newDisk(t, 10)
	done(t, d.Create("a"), d.Append("a", []byte("xy")))
	wantErr(t, "there", d.Create("a"), api.ErrThere)
	wantFiles(t, "there", d, "a=xy")
	for i := 1; i < api.MaxFiles; i++ {
		done(t, d.Create(fmt.Sprint("f", i)))
	}
	if len(d.List()) != api.MaxFiles {
		t.Fatal(len(d.List()))
	}
	wantErr(t, "full", d.Create("b"), api.ErrFull)
	wantErr(t, "there ahead of full", d.Create("a"), api.ErrThere)
	wantErr(t, "name ahead of full", d.Create("a b"), api.ErrArg)
	if len(d.List()) != api.MaxFiles {
		t.Fatal(len(d.List()))
	}
	done(t, d.Rename("f1", "f2"), d.Create("b"))
	wantErr(t, "full again", d.Create("c"), api.ErrFull)
	done(t, d.Remove("f3"), d.Create("c"))

	d = newDisk(t, 10)
	done(t, d.Create("a"), d.Append("a", []byte("xy")), d.Sync("a"), d.Remove("a"), d.Create("a"))
	wantFiles(t, "created again", d, "a=")
}

// P103: Append.
func TestAppend(t *testing.T) {
	d := newDisk(t, 10)
	wantErr(t, "none", d.Append("a", nil), api.ErrNone)
	wantErr(t, "none ahead of full", d.Append("a", make([]byte, 11)), api.ErrNone)
	done(t, d.Create("a"), d.Create("b"), d.Append("a", nil), d.Append("a", []byte{}))
	wantFiles(t, "nothing", d, "a= b=")
	done(t, d.Append("a", []byte("123")), d.Append("b", []byte("4567")), d.Append("a", []byte("89")))
	wantFiles(t, "in turn", d, "a=12389 b=4567")
	wantErr(t, "full", d.Append("a", []byte("xy")), api.ErrFull)
	wantErr(t, "full", d.Append("b", make([]byte, 1<<21)), api.ErrFull)
	wantFiles(t, "full", d, "a=12389 b=4567")
	done(t, d.Append("b", []byte("x")), d.Append("b", nil))
	wantErr(t, "full", d.Append("b", []byte("y")), api.ErrFull)

	// What is not in the directory takes no room, though a crash could bring it back.
	done(t, d.SyncDir(), d.Remove("a"), d.Append("b", []byte("fghij")))
	wantFiles(t, "removed", d, "b=4567xfghij")
	done(t, d.Create("c"), d.Rename("c", "b"))
	wantFiles(t, "renamed over", d, "b=")
	done(t, d.Append("b", []byte("0123456789")))
	wantErr(t, "full", d.Append("b", []byte("y")), api.ErrFull)
}

// P103: Sync, Remove, Read of what is not there; they tell no other file.
func TestNone(t *testing.T) {
	d := newDisk(t, 10)
	missing := func() {
		wantErr(t, "Sync", d.Sync("b"), api.ErrNone)
		wantErr(t, "Remove", d.Remove("b"), api.ErrNone)
		wantErr(t, "Rename", d.Rename("b", "c"), api.ErrNone)
		wantErr(t, "Rename to itself", d.Rename("b", "b"), api.ErrNone)
		wantErr(t, "Rename over", d.Rename("b", "a"), api.ErrNone)
		if b, e := d.Read("b"); len(b) != 0 || e != api.ErrNone {
			t.Errorf("Read: %q, %d", b, e)
		}
	}
	missing()
	done(t, d.Create("a"), d.Append("a", []byte("x")))
	missing()
	wantFiles(t, "beside one that is there", d, "a=x")
	done(t, d.Remove("a"))
	wantErr(t, "removed twice", d.Remove("a"), api.ErrNone)
	wantErr(t, "renamed behind", d.Rename("a", "b"), api.ErrNone)
	wantFiles(t, "removed", d, "")
}

// P103: Rename.
func TestRename(t *testing.T) {
	d := newDisk(t, 20)
	done(t, d.Create("a"), d.Append("a", []byte("xy")), d.Rename("a", "b"))
	wantFiles(t, "renamed", d, "b=xy")
	done(t, d.Append("b", []byte("z")), d.Create("a"), d.Append("a", []byte("1")), d.Rename("b", "a"))
	wantFiles(t, "over another", d, "a=xyz")
	wantErr(t, "elder name", d.Append("b", nil), api.ErrNone)
	done(t, d.Rename("a", "a"), d.Append("a", []byte("!")))
	wantFiles(t, "to itself", d, "a=xyz!")
}

// P103: List is by bytes, Used counts the directory's files alone.
func TestListUsed(t *testing.T) {
	d := newDisk(t, 20)
	for i, name := range []string{"b", "a~", "a", "Z", "a!", "aa", "10", "9", "_"} {
		done(t, d.Create(name), d.Append(name, make([]byte, i%3)))
	}
	if l := d.List(); !slices.Equal(l, []string{"10", "9", "Z", "_", "a", "a!", "aa", "a~", "b"}) {
		t.Errorf("%q", l)
	}
	if d.Used() != 9 {
		t.Error(d.Used())
	}
	done(t, d.Remove("a"), d.Rename("_", "aa"))
	if d.Used() != 5 {
		t.Error(d.Used())
	}
}

// P104: each of the six calls uses up one, and finds the power gone.
func TestFuse(t *testing.T) {
	for i := range mutators(nil) {
		d := newDisk(t, 10)
		done(t, d.Create("a"), d.Append("a", []byte("xy")))
		d.Cut(2)
		m := mutators(d)[i]
		done(t, d.SyncDir(), m.call())
		if d.Down() {
			t.Error(m.name, "down ahead of a change that finds no power")
		}
		wantErr(t, m.name, d.SyncDir(), api.ErrPower)
		if !d.Down() {
			t.Error(m.name, "not down")
		}

		d = newDisk(t, 10)
		done(t, d.Create("a"), d.Append("a", []byte("xy")))
		d.Cut(0)
		m = mutators(d)[i]
		wantErr(t, m.name, m.call(), api.ErrPower)
		wantErr(t, m.name, m.call(), api.ErrPower)
		if !d.Down() {
			t.Error(m.name, "not down")
		}
		wantFiles(t, m.name+" without power", d, "a=xy")
		// Neither a change nor a sync was done: a crash forgets all.
		d.Crash([]int{1, 0})
		wantFiles(t, m.name+" without power, crashed", d, "a=")
		wantErr(t, m.name+" has power", mutators(d)[i].call(), api.OK)
	}
}

// P104: calls that find another error use up nothing, and tell that error, whether there is power or not.
func TestOtherErrors(t *testing.T) {
	d := newDisk(t, 10)
	done(t, d.Create("a"))
	for i := 1; i < api.MaxFiles; i++ {
		done(t, d.Create(fmt.Sprint("f", i)))
	}
	others := func() {
		for i, c := range []struct{ got, want api.Errno }{
			{d.Create(" "), api.ErrArg}, {d.Create("a"), api.ErrThere}, {d.Create("b"), api.ErrFull},
			{d.Append(" ", nil), api.ErrArg}, {d.Append("b", nil), api.ErrNone}, {d.Append("a", make([]byte, 11)), api.ErrFull},
			{d.Sync(" "), api.ErrArg}, {d.Sync("b"), api.ErrNone},
			{d.Rename("a", " "), api.ErrArg}, {d.Rename(" ", "a"), api.ErrArg}, {d.Rename("b", "a"), api.ErrNone},
			{d.Remove(" "), api.ErrArg}, {d.Remove("b"), api.ErrNone},
		} {
			wantErr(t, fmt.Sprint("other error ", i), c.got, c.want)
		}
		d.Read("a")
		d.List()
		d.Used()
	}
	d.Cut(1)
	others()
	done(t, d.Append("a", []byte("x")))
	others()
	if d.Down() {
		t.Error("down by calls that use up nothing")
	}
	wantErr(t, "fuse", d.Sync("a"), api.ErrPower)
	others()
	if !d.Down() {
		t.Error("not down")
	}
	wantErr(t, "fuse", d.Sync("a"), api.ErrPower)
	if b, e := d.Read("a"); string(b) != "x" || e != api.OK || len(d.List()) != api.MaxFiles || d.Used() != 1 {
		t.Error("looks without power", b, e, len(d.List()), d.Used())
	}
}

// P104: Cut's numbers.
func TestCut(t *testing.T) {
	for _, n := range []int{-1, -2, math.MinInt, math.MaxInt, 1000} {
		d := newDisk(t, 10)
		d.Cut(0)
		d.Cut(n)
		for range 1000 {
			done(t, d.SyncDir())
		}
		if d.Down() {
			t.Error(n, "down")
		}
	}
	for _, n := range []int{0, 1, 2, 7} {
		d := newDisk(t, 10)
		d.Cut(100)
		d.Cut(n)
		for range n {
			done(t, d.SyncDir())
		}
		if d.Down() {
			t.Error(n, "down too early")
		}
		wantErr(t, fmt.Sprint("Cut ", n), d.SyncDir(), api.ErrPower)
	}
	// Once the power is gone it stays so till a Crash, whatever the fuse.
	for _, n := range []int{-1, 0, 1, 100} {
		d := newDisk(t, 10)
		d.Cut(0)
		wantErr(t, "gone", d.Create("a"), api.ErrPower)
		d.Cut(n)
		if !d.Down() {
			t.Error("a fuse brought the power back", n)
		}
		wantErr(t, "gone", d.Create("a"), api.ErrPower)
		wantErr(t, "gone", d.SyncDir(), api.ErrPower)
		d.Crash(nil)
		if d.Down() {
			t.Error("down behind a crash", n)
		}
		for range 200 {
			done(t, d.SyncDir())
		}
	}
	// A Crash takes a fuse that is not used up, too.
	d := newDisk(t, 10)
	d.Cut(1)
	d.Crash(nil)
	done(t, d.Create("a"), d.SyncDir(), d.SyncDir())
}
