package seglog_test

import (
	"fmt"
	"math/rand"
	"slices"
	"testing"

	"hustings/api"
	"hustings/seglog"
	"hustings/vdisk"
)

// trail: the states that a log may be in behind a crash: the last one that is sure, and those behind it, also within an Append.
type trail struct {
	may []state
}

func newTrail(s state) *trail { return &trail{may: []state{s}} }

func (r *trail) now() state { return r.may[len(r.may)-1] }

func (r *trail) goOn(s state) { r.may = append(r.may, s) }

// sure: only the last one may be.
func (r *trail) sure() { r.may = r.may[len(r.may)-1:] }

func (r *trail) has(s state) bool {
	return slices.ContainsFunc(r.may, func(m state) bool { return m.String() == s.String() })
}

// appended: each of the entries in turn.
func (r *trail) appended(x ...api.Entry) {
	for _, one := range x {
		s := r.now()
		s.list = append(slices.Clone(s.list), one)
		r.goOn(s)
	}
}

func (r *trail) cut(from int) {
	s := r.now()
	s.list = s.list[:from-s.index-1]
	r.goOn(s)
}

func (r *trail) rebased(index, term int) {
	s := r.now()
	next := state{index: index, term: term}
	for _, x := range s.list {
		if x.Index > index && index > s.index && s.termOf(index) == term {
			next.list = append(next.list, x)
		}
	}
	r.goOn(next)
}

// change: one of the log and its trail. An Append that failed may still have come, as may a Rebase.
type change struct {
	name   string
	call   func(l *seglog.Log) api.Errno
	follow func(r *trail)
	sure   bool
}

func appends(x ...api.Entry) change {
	return change{fmt.Sprint("Append ", x), func(l *seglog.Log) api.Errno { return l.Append(x...) }, func(r *trail) { r.appended(x...) }, false}
}

func cuts(from int) change {
	return change{fmt.Sprint("Cut ", from), func(l *seglog.Log) api.Errno { return l.Cut(from) }, func(r *trail) { r.cut(from) }, false}
}

func rebases(index, term int) change {
	return change{fmt.Sprint("Rebase ", index, term), func(l *seglog.Log) api.Errno { return l.Rebase(index, term) }, func(r *trail) { r.rebased(index, term) }, true}
}

func syncs() change {
	return change{"Sync", (*seglog.Log).Sync, func(*trail) {}, true}
}

// do: the change, on both; tells whether it was done.
func do(t *testing.T, l *seglog.Log, r *trail, c change) bool {
	t.Helper()
	e := c.call(l)
	c.follow(r)
	if e == api.OK && c.sure {
		r.sure()
	}
	if e == api.OK {
		wantState(t, c.name, l, r.now())
	}
	return e == api.OK
}

// The chapter's example: each of the three, and no other.
func TestExample(t *testing.T) {
	all := []api.Entry{at(1, 1), at(2, 1), at(3, 1), at(4, 1)}
	seen := map[string]int{}
	for choice := range len(entryBytes(at(4, 1))) + len(cutBytes(3)) + 1 {
		d := newDisk(t, 1000)
		l := open(t, d)
		done(t, l.Append(all[:3]...), l.Sync(), l.Append(all[3]), l.Cut(3))
		d.Crash([]int{0, choice})
		seen[tell(t, open(t, d)).String()]++
	}
	want := map[string]int{
		state{list: all[:3]}.String(): len(entryBytes(all[3])),
		state{list: all}.String():     len(cutBytes(3)),
		state{list: all[:2]}.String(): 1,
	}
	if fmt.Sprint(seen) != fmt.Sprint(want) {
		t.Errorf("%v, want %v", seen, want)
	}
}

// rows: changes from a new log on, each with a danger of its own.
func rows() [][]change {
	big := func(i int) api.Entry { return sized(i, 1, 1200) }
	return [][]change{
		{appends(at(1, 1), at(2, 1), at(3, 1)), syncs(), appends(at(4, 1)), cuts(3)},
		{appends(at(1, 1)), appends(at(2, 1)), cuts(1), appends(at(1, 2)), syncs(), cuts(1)},
		// A base behind a cut that was not synced.
		{appends(at(1, 1), at(2, 1), at(3, 1), at(4, 1)), syncs(), cuts(3), rebases(2, 1)},
		{appends(at(1, 1), at(2, 1), at(3, 1), at(4, 1)), syncs(), cuts(2), rebases(2, 1), appends(at(3, 1))},
		{appends(at(1, 1), at(2, 1), at(3, 1)), syncs(), cuts(2), appends(at(2, 5)), rebases(2, 1)},
		// The same with the cut in a later file than what it cuts.
		{appends(big(1), big(2), big(3)), cuts(2), rebases(1, 1), appends(at(2, 3)), syncs(), rebases(2, 3)},
		{appends(big(1), big(2)), appends(at(3, 1)), cuts(2), syncs(), rebases(1, 1)},
		{appends(big(1), big(2)), appends(big(3), big(4)), cuts(3), rebases(2, 1), appends(at(3, 1)), rebases(3, 1)},
		// Bases one behind the other, whose elder files are there still.
		{rebases(5, 1), appends(at(6, 1), at(7, 1)), rebases(6, 1), rebases(7, 1), appends(at(8, 1)), cuts(8), rebases(9, 1)},
		{appends(at(1, 1), at(2, 1), at(3, 1)), rebases(1, 1), cuts(3), rebases(2, 1), appends(at(3, 9)), rebases(3, 9)},
		{appends(at(1, 1), at(2, 2), at(3, 3)), rebases(2, 1), appends(at(3, 1)), rebases(3, 7), appends(at(4, 7)), syncs()},
		// A log that is empty again, in the next file.
		{appends(big(1), big(2)), cuts(1), appends(at(1, 2)), rebases(1, 2), appends(at(2, 2)), syncs()},
		{appends(big(1)), appends(big(2)), appends(big(3)), appends(big(4)), syncs(), cuts(2), cuts(1), appends(big(1)), appends(big(2)), rebases(1, 1)},
	}
}

// choicesFor: rows of choices for a crash: how many names, how many bytes of each file.
func choicesFor(r *rand.Rand) [][]int {
	l := [][]int{nil}
	for names := range 8 {
		l = append(l, []int{names}, []int{names, 1 << 20, 1 << 20, 1 << 20, 1 << 20}, []int{names, -1, -1, -1, -1}, []int{names, 0, -1, 0, -1}, []int{names, -1, 0, -1, 0})
		some := []int{names}
		for range 5 {
			some = append(some, r.Intn(4000))
		}
		l = append(l, some)
	}
	return l
}

// run: a row of changes on a new disk, whose power goes behind n steps.
func run(t *testing.T, row []change, n int) (*vdisk.Disk, *trail, bool) {
	t.Helper()
	d := newDisk(t, 100000)
	l, r := open(t, d), newTrail(state{})
	d.Cut(n)
	for _, c := range row {
		if !do(t, l, r, c) {
			return d, r, false
		}
	}
	return d, r, true
}

// P506: the power goes behind each step of each row, with many choices; and again within the Open behind it.
func TestCrashAnywhere(t *testing.T) {
	choice := rand.New(rand.NewSource(1))
	for i, row := range rows() {
		for n, through := 0, false; !through; n++ {
			for _, choices := range choicesFor(choice) {
				var d *vdisk.Disk
				var r *trail
				d, r, through = run(t, row, n)
				d.Crash(choices)
				what := fmt.Sprintf("row %d, power for %d, choices %v", i, n, choices)
				d.Cut(n % 2)
				if _, e := seglog.Open(d); e != api.OK && e != api.ErrPower {
					t.Fatalf("%s: Open %d", what, e)
				}
				d.Crash([]int{n})
				got := tell(t, open(t, d))
				if !r.has(got) {
					t.Fatalf("%s: %v, want one of %v", what, got, r.may)
				}
				d.Crash(choices)
				wantState(t, what+", opened again", open(t, d), got)
			}
		}
	}
}

// P506: what a Rebase made sure is there, whichever of the elder files come back.
func TestElderComeBack(t *testing.T) {
	for i, row := range rows() {
		for back := range 10 {
			d, r, _ := run(t, append(slices.Clone(row), rebases(40, 2), appends(at(41, 2)), syncs(), rebases(41, 2)), -1)
			d.Crash([]int{back})
			wantState(t, fmt.Sprint("row ", i, " back ", back), open(t, d), r.now())
		}
	}
}

// some: a change that may be, of the state that is.
func some(r *rand.Rand, s state) change {
	switch x := r.Intn(20); {
	case x < 9 || x < 13 && len(s.list) == 0:
		term := max(s.termOf(s.last()), 1)
		var l []api.Entry
		for i := range 1 + r.Intn(4) {
			term += r.Intn(5) / 4
			l = append(l, sized(s.last()+1+i, term, r.Intn(2)*r.Intn(700)))
		}
		return appends(l...)
	case x < 13:
		return cuts(s.index + 1 + r.Intn(len(s.list)))
	case x < 16:
		index := s.index + 1 + r.Intn(len(s.list)+2)
		term := max(s.term, 1)
		if index <= s.last() {
			term = s.termOf(index) + r.Intn(6)/5
		}
		return rebases(index, term)
	}
	return syncs()
}

// P506: long rows of changes, crashes and openings, also without a crash between.
func TestCrashRandom(t *testing.T) {
	for seed := range int64(150) {
		r := rand.New(rand.NewSource(seed))
		d := newDisk(t, 30000)
		l, may := open(t, d), newTrail(state{})
		d.Cut(r.Intn(80))
		for step := range 150 {
			c := some(r, may.now())
			if !do(t, l, may, c) || r.Intn(30) == 0 {
				var choices []int
				for range r.Intn(8) {
					choices = append(choices, r.Intn(3000)-100)
				}
				d.Crash(choices)
				d.Cut(r.Intn(2))
				seglog.Open(d)
				d.Crash(choices)
				l = open(t, d)
				got := tell(t, l)
				if !may.has(got) {
					t.Fatalf("seed %d step %d: %v\nwant one of\n%v", seed, step, got, may.may)
				}
				may = newTrail(got)
				d.Cut(r.Intn(80))
			} else if r.Intn(10) == 0 {
				if again, e := seglog.Open(d); e == api.OK {
					wantState(t, "opened without a crash", again, may.now())
					l = again
				}
			}
		}
	}
}

// model: reads files in another way: a map of entries by their indexes.
type model struct {
	base, term, last int
	entries          map[int]api.Entry
}

func (m *model) termOf(i int) int {
	if i == m.base {
		return m.term
	}
	return m.entries[i].Term
}

// drop: all entries from i on go.
func (m *model) drop(i int) {
	for ; m.last >= i; m.last-- {
		delete(m.entries, m.last)
	}
}

func (m *model) entry(x api.Entry) bool {
	switch {
	case x.Index <= m.base:
		return true
	case x.Index > m.last+1, x.Term < m.termOf(x.Index-1):
		return false
	}
	m.drop(x.Index)
	m.entries[x.Index] = x
	m.last = x.Index
	return true
}

func (m *model) cut(from int) bool {
	if _, there := m.entries[from]; !there {
		return false
	}
	m.drop(from)
	return true
}

func (m *model) rebase(index, term int) bool {
	if index <= m.base {
		return true
	}
	if x, there := m.entries[index]; !there || x.Term != term {
		clear(m.entries)
		m.last = index
	}
	for i := range index + 1 {
		delete(m.entries, i)
	}
	m.base, m.term = index, term
	return true
}

func (m *model) state() state {
	s := state{index: m.base, term: m.term}
	for i := m.base + 1; i <= m.last; i++ {
		s.list = append(s.list, m.entries[i])
	}
	return s
}

// P502, P504: files of all kinds of records are read as the model reads them; what is written behind them is told behind them.
func TestAgainstModel(t *testing.T) {
	for seed := range int64(2000) {
		r := rand.New(rand.NewSource(seed))
		m := &model{entries: map[int]api.Entry{}}
		var files [][]byte
		for range r.Intn(5) {
			var b []byte
			fits := true
			for range r.Intn(9) {
				index, term := 1+r.Intn(8), 1+r.Intn(3)
				if r.Intn(2) == 0 {
					index, term = m.last+1, m.termOf(m.last)+r.Intn(2)
				}
				var record []byte
				var do func() bool
				switch x := r.Intn(20); {
				case x < 13:
					record, do = entryBytes(at(index, max(term, 1))), func() bool { return m.entry(at(index, max(term, 1))) }
				case x < 16:
					record, do = cutBytes(index-1), func() bool { return m.cut(index - 1) }
				case x < 18:
					record, do = baseBytes(index-1, term), func() bool { return m.rebase(index-1, term) }
				case x < 19:
					record, do = framed(4+r.Intn(9), num(index)), func() bool { return false }
				default:
					record, do = []byte("x"), func() bool { return false }
				}
				b = append(b, record...)
				fits = fits && do()
			}
			files = append(files, b)
		}
		d := laid(t, files...)
		l := open(t, d)
		wantState(t, fmt.Sprint("seed ", seed), l, m.state())
		may := newTrail(m.state())
		for range 5 {
			do(t, l, may, some(r, may.now()))
			wantState(t, fmt.Sprint("seed ", seed, " opened again"), open(t, d), may.now())
		}
	}
}
