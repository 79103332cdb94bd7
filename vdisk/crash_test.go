package vdisk_test

import (
	"bytes"
	"fmt"
	"maps"
	"math"
	"math/rand"
	"slices"
	"strings"
	"testing"

	"hustings/api"
	"hustings/vdisk"
)

// The chapter's examples.
func TestExamples(t *testing.T) {
	begin := func() *vdisk.Disk {
		d := newDisk(t, 10)
		done(t, d.Create("a"), d.Append("a", []byte("xy")), d.Sync("a"))
		return d
	}
	d := begin()
	d.Crash(nil)
	wantFiles(t, "name not synced", d, "")
	d = begin()
	done(t, d.SyncDir())
	d.Crash(nil)
	wantFiles(t, "name synced", d, "a=xy")
	for choice, want := range []string{"a=xy", "a=xyz", "a=xy", "a=xyz"} {
		d = begin()
		done(t, d.SyncDir(), d.Append("a", []byte("z")))
		d.Crash([]int{0, choice})
		wantFiles(t, fmt.Sprint("appended behind, ", choice), d, want)
	}
}

// P105: how many changes are kept, by each kind of change.
func TestCrashChanges(t *testing.T) {
	begin := func() *vdisk.Disk {
		d := newDisk(t, 100)
		done(t,
			d.Create("a"), d.Append("a", []byte("A")), d.Sync("a"),
			d.Create("b"), d.Append("b", []byte("B")), d.Sync("b"), d.SyncDir(),
			d.Create("c"), d.Append("c", []byte("C")), d.Sync("c"), // 1
			d.Rename("c", "a"),                                       // 2
			d.Remove("b"),                                            // 3
			d.Create("b"), d.Append("b", []byte("new")), d.Sync("b"), // 4
			d.Rename("b", "b"), // 5
			d.Rename("a", "z"), // 6
			d.Remove("z"),      // 7
		)
		return d
	}
	states := []string{"a=A b=B", "a=A b=B c=C", "a=C b=B", "a=C", "a=C b=new", "a=C b=new", "b=new z=C", "b=new"}
	for _, round := range []int{0, 8, -8, 16, -80, 8 << 50, -(8 << 50)} {
		for kept, want := range states {
			d := begin()
			d.Crash([]int{round + kept})
			wantFiles(t, fmt.Sprint("kept ", round, kept), d, want)
		}
	}
	d := begin()
	d.Crash([]int{math.MinInt})
	wantFiles(t, "MinInt mod 8 is 0", d, states[0])
	d = begin()
	d.Crash([]int{math.MaxInt})
	wantFiles(t, "MaxInt mod 8 is 7", d, states[7])
	d = begin()
	d.Crash([]int{-1})
	wantFiles(t, "-1 mod 8 is 7", d, states[7])
	for _, none := range [][]int{nil, {}} {
		d = begin()
		d.Crash(none)
		wantFiles(t, "no choices", d, states[0])
	}
}

// P105: how many bytes are kept; each file uses up one choice, by rising names, also one that has none to choose.
func TestCrashBytes(t *testing.T) {
	for _, c := range []struct {
		choices []int
		want    string
	}{
		{nil, "a=12 b= c=12 d=12"},
		{[]int{0}, "a=12 b= c=12 d=12"},
		{[]int{9, 0, 0, 0, 0}, "a=12 b= c=12 d=12"},
		{[]int{0, 1}, "a=123 b= c=12 d=12"},
		{[]int{0, 3}, "a=12345 b= c=12 d=12"},
		{[]int{0, 4}, "a=12 b= c=12 d=12"},
		{[]int{0, -1}, "a=12345 b= c=12 d=12"},
		{[]int{0, -2, -1}, "a=1234 b=xy c=12 d=12"},
		{[]int{0, 0, 1}, "a=12 b=x c=12 d=12"},
		{[]int{0, 0, 0, 1}, "a=12 b= c=12 d=12"}, // c is synced whole: its choice is among one
		{[]int{0, 0, 0, 1, 1}, "a=12 b= c=12 d=123"},
		{[]int{0, 3, 2, 7, 1, 9, 9, 9}, "a=12345 b=xy c=12 d=123"},
		{[]int{math.MinInt, math.MaxInt, math.MinInt, math.MinInt, math.MaxInt}, "a=12345 b=x c=12 d=123"},
	} {
		d := newDisk(t, 100)
		// Made in another order than that of their names.
		done(t,
			d.Create("d"), d.Append("d", []byte("12")), d.Sync("d"), d.Append("d", []byte("3")),
			d.Create("b"), d.Append("b", []byte("xy")),
			d.Create("a"), d.Append("a", []byte("1")), d.Append("a", []byte("2")), d.Sync("a"), d.Append("a", []byte("345")),
			d.Create("c"), d.Append("c", []byte("12")), d.Sync("c"), d.SyncDir())
		d.Crash(c.choices)
		wantFiles(t, fmt.Sprint("choices ", c.choices), d, c.want)
	}
}

// P105: a file's bytes, and how many of them are synced, go with it from name to name.
func TestCrashRenamed(t *testing.T) {
	for _, c := range []struct {
		choices []int
		want    string
	}{
		{[]int{0, 1}, "new=old"},
		{[]int{1, 2, 1}, "new=old tmp=fresh1"},
		{[]int{2, 1}, "new=fresh1"},
		{[]int{2, 0}, "new=fresh"},
	} {
		d := newDisk(t, 100)
		done(t, d.Create("new"), d.Append("new", []byte("old")), d.Sync("new"), d.SyncDir(),
			d.Create("tmp"), d.Append("tmp", []byte("fresh")), d.Sync("tmp"), d.Rename("tmp", "new"), d.Append("new", []byte("123")))
		d.Crash(c.choices)
		wantFiles(t, fmt.Sprint("choices ", c.choices), d, c.want)
	}
	// Bytes that were appended to a file whose name was removed since come back with it.
	d := newDisk(t, 100)
	done(t, d.Create("a"), d.SyncDir(), d.Append("a", []byte("xyz")), d.Remove("a"), d.Create("a"), d.Append("a", []byte("other")))
	d.Crash([]int{0, 2})
	wantFiles(t, "the elder file", d, "a=xy")
}

// P105: all is synced behind a crash, and goes on from there.
func TestCrashSyncs(t *testing.T) {
	d := newDisk(t, 100)
	done(t, d.Create("a"), d.Append("a", []byte("xyz")), d.Create("b"))
	d.Crash([]int{1, 2})
	wantFiles(t, "first", d, "a=xy")
	done(t, d.Append("a", []byte("12")), d.Create("b"), d.Remove("a"))
	d.Crash([]int{0, 0})
	wantFiles(t, "second", d, "a=xy")
	done(t, d.Append("a", []byte("12")), d.Sync("a"), d.Append("a", []byte("34")), d.Create("b"))
	d.Crash([]int{1, 1, 5})
	wantFiles(t, "third", d, "a=xy123 b=")
}

// P103, P105: a crash may bring back more than quota; then nothing fits, not even no bytes.
func TestCrashOverQuota(t *testing.T) {
	d := newDisk(t, 10)
	done(t, d.Create("a"), d.Append("a", []byte("0123456789")), d.Sync("a"), d.SyncDir(),
		d.Create("b"), d.Remove("a"), d.Append("b", []byte("abcdefgh")))
	d.Crash([]int{1, 0, 8})
	wantFiles(t, "more than quota", d, "a=0123456789 b=abcdefgh")
	wantErr(t, "Append", d.Append("b", nil), api.ErrFull)
	done(t, d.Sync("a"), d.Create("c"), d.Remove("a"), d.Append("b", []byte("ij")))
	wantErr(t, "Append", d.Append("c", []byte("k")), api.ErrFull)
}

// model: the same disk in another way: a list of all directories since the synced one, files by numbers.
type model struct {
	quota  int
	data   [][]byte
	synced []int
	dirs   []map[string]int
	fuse   int
	gone   bool
	// named: names that were synced and not changed since (P106).
	named map[string]bool
}

func newModel(quota int) *model {
	return &model{quota: quota, dirs: []map[string]int{{}}, fuse: -1, named: map[string]bool{}}
}

func (m *model) dir() map[string]int { return m.dirs[len(m.dirs)-1] }

func (m *model) used() int {
	n := 0
	for _, f := range m.dir() {
		n += len(m.data[f])
	}
	return n
}

func (m *model) power() api.Errno {
	switch {
	case m.gone:
	case m.fuse < 0:
		return api.OK
	case m.fuse > 0:
		m.fuse--
		return api.OK
	}
	m.gone = true
	return api.ErrPower
}

// op: one of the six calls, by its number.
func (m *model) op(kind int, name, to string, b []byte) api.Errno {
	f, there := m.dir()[name]
	switch {
	case kind == 0 && there:
		return api.ErrThere
	case kind != 0 && kind != 3 && !there:
		return api.ErrNone
	case kind == 1 && m.used()+len(b) > m.quota:
		return api.ErrFull
	}
	if e := m.power(); e != api.OK {
		return e
	}
	next := maps.Clone(m.dir())
	switch kind {
	case 0:
		m.data, m.synced = append(m.data, nil), append(m.synced, 0)
		next[name] = len(m.data) - 1
	case 1:
		m.data[f] = slices.Concat(m.data[f], b)
		return api.OK
	case 2:
		m.synced[f] = len(m.data[f])
		return api.OK
	case 3:
		m.dirs = []map[string]int{next}
		clear(m.named)
		for name := range next {
			m.named[name] = true
		}
		return api.OK
	case 4:
		delete(next, name)
		next[to] = f
	case 5:
		delete(next, name)
	}
	m.dirs = append(m.dirs, next)
	delete(m.named, name)
	delete(m.named, to)
	return api.OK
}

func (m *model) crash(choices []int) {
	choose := func(n int) int {
		if len(choices) == 0 {
			return 0
		}
		c := choices[0]
		choices = choices[1:]
		return (c%n + n) % n
	}
	dir := m.dirs[choose(len(m.dirs))]
	for _, name := range slices.Sorted(maps.Keys(dir)) {
		f := dir[name]
		m.synced[f] += choose(len(m.data[f]) - m.synced[f] + 1)
		m.data[f] = m.data[f][:m.synced[f]]
	}
	m.dirs = []map[string]int{dir}
	m.fuse, m.gone = -1, false
	clear(m.named)
	for name := range dir {
		m.named[name] = true
	}
}

func (m *model) tell() string {
	var l []string
	for _, name := range slices.Sorted(maps.Keys(m.dir())) {
		l = append(l, name+"="+string(m.data[m.dir()[name]]))
	}
	return strings.Join(l, " ")
}

func apply(d *vdisk.Disk, kind int, name, to string, b []byte) api.Errno {
	switch kind {
	case 0:
		return d.Create(name)
	case 1:
		return d.Append(name, b)
	case 2:
		return d.Sync(name)
	case 3:
		return d.SyncDir()
	case 4:
		return d.Rename(name, to)
	}
	return d.Remove(name)
}

func someChoices(r *rand.Rand) []int {
	l := make([]int, r.Intn(8))
	for i := range l {
		l[i] = r.Intn(40) - 10
	}
	return l
}

// checkCrash: P106 and P107 on their own, beside the model.
func checkCrash(t *testing.T, r *rand.Rand, d *vdisk.Disk, m *model) {
	t.Helper()
	sure := map[string][]byte{}
	for name := range m.named {
		f := m.dir()[name]
		sure[name] = bytes.Clone(m.data[f][:m.synced[f]])
	}
	choices := someChoices(r)
	d.Crash(choices)
	m.crash(choices)
	for name, b := range sure {
		if got, e := d.Read(name); e != api.OK || !bytes.HasPrefix(got, b) {
			t.Fatalf("Crash(%v): %q was synced as %q, and is %q, %d", choices, name, b, got, e)
		}
	}
	once := tell(t, d)
	d.Crash(someChoices(r))
	if twice := tell(t, d); once != twice || d.Down() {
		t.Fatalf("a second Crash: %q, then %q", once, twice)
	}
}

// P103 to P107 against the model, in long rows of calls and crashes.
func TestAgainstModel(t *testing.T) {
	names := []string{"a", "b", "c", "log-1", "log-2", "tmp"}
	for seed := range int64(400) {
		r := rand.New(rand.NewSource(seed))
		quota := 1 + r.Intn(60)
		d, m := newDisk(t, quota), newModel(quota)
		for step := range 300 {
			switch x := r.Intn(100); {
			case x < 4:
				checkCrash(t, r, d, m)
			case x < 8:
				n := r.Intn(30) - 5
				d.Cut(n)
				m.fuse = max(n, -1)
			default:
				kind := []int{0, 0, 1, 1, 1, 1, 2, 2, 3, 4, 4, 5}[r.Intn(12)]
				name, to := names[r.Intn(len(names))], names[r.Intn(len(names))]
				b := make([]byte, r.Intn(9))
				for i := range b {
					b[i] = byte('A' + r.Intn(26))
				}
				if kind != 4 {
					to = name
				}
				got, want := apply(d, kind, name, to, b), m.op(kind, name, to, b)
				if got != want {
					t.Fatalf("seed %d step %d: call %d %q %q %q: %d, want %d", seed, step, kind, name, to, b, got, want)
				}
			}
			if got, want := tell(t, d), m.tell(); got != want || d.Down() != m.gone {
				t.Fatalf("seed %d step %d: %q %v, want %q %v", seed, step, got, d.Down(), want, m.gone)
			}
		}
	}
}

// P106: whatever the choices, all of them gone through.
func TestSure(t *testing.T) {
	for kept := range 5 {
		for more := range 4 {
			for other := range 4 {
				d := newDisk(t, 100)
				done(t, d.Create("s"), d.Append("s", []byte("sure")), d.Create("t"), d.SyncDir(), d.Sync("s"),
					d.Append("s", []byte("+++")), d.Create("u"), d.Append("u", []byte("uuu")), d.Rename("u", "t"), d.Rename("t", "v"), d.Remove("v"))
				d.Crash([]int{kept, more, other, other})
				if b, e := d.Read("s"); e != api.OK || string(b) != "sure+++"[:4+more] {
					t.Errorf("%d %d %d: %q, %d", kept, more, other, b, e)
				}
			}
		}
	}
}

// P107: twice is once, with any choices.
func TestCrashTwice(t *testing.T) {
	d := newDisk(t, 100)
	done(t, d.Create("a"), d.Append("a", []byte("xyz")), d.Create("b"), d.Append("b", []byte("12")), d.Remove("b"), d.Rename("a", "c"))
	d.Crash([]int{2, 1, 1})
	wantFiles(t, "once", d, "a=x b=1")
	for _, choices := range [][]int{nil, {0}, {1, 1, 1}, {-1, -1, -1}, {4, 3, 2, 1}, {math.MaxInt, math.MinInt}} {
		d.Crash(choices)
		wantFiles(t, fmt.Sprint("twice ", choices), d, "a=x b=1")
	}
}
