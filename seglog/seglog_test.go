package seglog_test

import (
	"bytes"
	"fmt"
	"math"
	"slices"
	"strings"
	"testing"

	"hustings/api"
	"hustings/frame"
	"hustings/seglog"
	"hustings/vdisk"
	"hustings/wire"
)

func newDisk(t *testing.T, quota int) *vdisk.Disk {
	t.Helper()
	d, e := vdisk.New(quota)
	if e != api.OK {
		t.Fatalf("New(%d): %d", quota, e)
	}
	return d
}

func open(t *testing.T, d *vdisk.Disk) *seglog.Log {
	t.Helper()
	l, e := seglog.Open(d)
	if l == nil || e != api.OK {
		t.Fatalf("Open: %v, %d", l, e)
	}
	return l
}

// done: all calls, made in a row, must have answered OK.
func done(t *testing.T, errs ...api.Errno) {
	t.Helper()
	for i, e := range errs {
		if e != api.OK {
			t.Fatalf("call %d: %d", i, e)
		}
	}
}

func wantErr(t *testing.T, what string, got, want api.Errno) {
	t.Helper()
	if got != want {
		t.Errorf("%s: %d, want %d", what, got, want)
	}
}

// at: an entry of that index and term.
func at(index, term int) api.Entry {
	return api.Entry{Term: term, Index: index, Kind: api.Command, Data: []byte{byte(index), byte(term)}}
}

// sized: one of so many bytes of data.
func sized(index, term, size int) api.Entry {
	return api.Entry{Term: term, Index: index, Kind: api.Command, Data: bytes.Repeat([]byte{byte(index)}, size)}
}

// state: what a log is to be.
type state struct {
	index, term int
	list        []api.Entry
}

func (s state) String() string {
	var b strings.Builder
	fmt.Fprintf(&b, "%d/%d", s.index, s.term)
	for _, x := range s.list {
		fmt.Fprintf(&b, " %d/%d/%d/%x", x.Index, x.Term, x.Kind, x.Data)
	}
	return b.String()
}

func (s state) last() int { return s.index + len(s.list) }

func (s state) termOf(i int) int {
	if i == s.index {
		return s.term
	}
	return s.list[i-s.index-1].Term
}

// tell: the state that a log's looks tell, which must agree with each other.
func tell(t *testing.T, l *seglog.Log) state {
	t.Helper()
	var s state
	s.index, s.term = l.Base()
	s.list = l.Entries(math.MinInt, math.MaxInt)
	if l.Last() != s.last() {
		t.Fatalf("Last: %d of %v", l.Last(), s)
	}
	for i := s.index; i <= s.last(); i++ {
		if n, e := l.Term(i); n != s.termOf(i) || e != api.OK {
			t.Fatalf("Term(%d): %d, %d of %v", i, n, e, s)
		}
	}
	return s
}

func wantState(t *testing.T, what string, l *seglog.Log, want state) {
	t.Helper()
	if got := tell(t, l).String(); got != want.String() {
		t.Errorf("%s: %s, want %v", what, got, want)
	}
}

// The records as bytes.
func framed(kind int, parts ...[]byte) []byte {
	b, e := frame.Put(kind, bytes.Join(parts, nil))
	if e != api.OK {
		panic(e)
	}
	return b
}

func num(n int) []byte {
	b, e := wire.PutNumber(n)
	if e != api.OK {
		panic(e)
	}
	return b
}

func entryBytes(l ...api.Entry) []byte {
	var all []byte
	for _, x := range l {
		b, e := wire.PutEntry(x)
		if e != api.OK {
			panic(e)
		}
		all = append(all, framed(1, b)...)
	}
	return all
}

func cutBytes(from int) []byte { return framed(2, num(from)) }

func baseBytes(index, term int) []byte { return framed(3, num(index), num(term)) }

// lay: a file with these bytes.
func lay(t *testing.T, d *vdisk.Disk, name string, parts ...[]byte) {
	t.Helper()
	done(t, d.Create(name), d.Append(name, bytes.Join(parts, nil)))
}

// laid: a disk with files that are there for sure, from log-00000001 on.
func laid(t *testing.T, files ...[]byte) *vdisk.Disk {
	t.Helper()
	d := newDisk(t, api.MaxBytes)
	for i, b := range files {
		name := fmt.Sprintf("log-%08d", i+1)
		lay(t, d, name, b)
		done(t, d.Sync(name))
	}
	done(t, d.SyncDir())
	return d
}

// names: those on a disk, as one text.
func names(d *vdisk.Disk) string {
	return strings.Join(d.List(), " ")
}

func wantFile(t *testing.T, what string, d *vdisk.Disk, name string, parts ...[]byte) {
	t.Helper()
	want := bytes.Join(parts, nil)
	if got, e := d.Read(name); e != api.OK || !bytes.Equal(got, want) {
		t.Errorf("%s: %s is %x, %d, want %x", what, name, got, e, want)
	}
}

// changes: one call of each change that could be done.
func changes(l *seglog.Log) []struct {
	name string
	call func() api.Errno
} {
	index, _ := l.Base()
	return []struct {
		name string
		call func() api.Errno
	}{
		{"Append", func() api.Errno { return l.Append(at(l.Last()+1, 1000)) }},
		{"Cut", func() api.Errno { return l.Cut(l.Last()) }},
		{"Rebase", func() api.Errno { return l.Rebase(index+1, 1) }},
		{"Sync", l.Sync},
	}
}

// P501: a nil Log, and one that Open did not make.
func TestNotMade(t *testing.T) {
	for what, l := range map[string]*seglog.Log{"nil": nil, "not made": {}} {
		wantErr(t, what+" Append", l.Append(at(1, 1)), api.ErrArg)
		wantErr(t, what+" Append", l.Append(), api.ErrArg)
		wantErr(t, what+" Cut", l.Cut(1), api.ErrArg)
		wantErr(t, what+" Cut", l.Cut(0), api.ErrArg)
		wantErr(t, what+" Rebase", l.Rebase(1, 1), api.ErrArg)
		wantErr(t, what+" Rebase", l.Rebase(0, 0), api.ErrArg)
		wantErr(t, what+" Sync", l.Sync(), api.ErrArg)
		if index, term := l.Base(); index != 0 || term != 0 || l.Last() != 0 {
			t.Errorf("%s: base %d %d, last %d", what, index, term, l.Last())
		}
		for _, i := range []int{-1, 0, 1} {
			if n, e := l.Term(i); n != 0 || e != api.ErrArg {
				t.Errorf("%s: Term(%d): %d, %d", what, i, n, e)
			}
		}
		if x := l.Entries(0, 9); len(x) != 0 {
			t.Errorf("%s: Entries %v", what, x)
		}
	}
}

// P502: a disk that is none.
func TestOpenNoDisk(t *testing.T) {
	for what, d := range map[string]*vdisk.Disk{"nil": nil, "not made": {}} {
		if l, e := seglog.Open(d); l != nil || e != api.ErrArg {
			t.Errorf("%s: %v, %d", what, l, e)
		}
	}
}

// P502: log.tmp is removed, and nothing else is written.
func TestOpenWrites(t *testing.T) {
	torn := entryBytes(at(1, 1), at(2, 1), at(3, 1))
	d := laid(t, entryBytes(at(1, 1)), nil, torn[:len(torn)-1])
	d.Cut(0)
	wantState(t, "without log.tmp", open(t, d), state{list: []api.Entry{at(1, 1), at(2, 1)}})
	if d.Down() {
		t.Error("Open used up a fuse")
	}
	d.Cut(-1)
	lay(t, d, "log.tmp", baseBytes(7, 7))
	lay(t, d, "log.tmpx", baseBytes(8, 8))
	d.Cut(1)
	wantState(t, "with log.tmp", open(t, d), state{list: []api.Entry{at(1, 1), at(2, 1)}})
	if got := names(d); got != "log-00000001 log-00000002 log-00000003 log.tmpx" {
		t.Error(got)
	}
	if d.Down() || d.SyncDir() != api.ErrPower {
		t.Error("Open takes just one step")
	}
	d.Crash(nil)
	lay(t, d, "log.tmp")
	d.Cut(0)
	if l, e := seglog.Open(d); l != nil || e != api.ErrPower {
		t.Errorf("without power: %v, %d", l, e)
	}
	if !slices.Contains(d.List(), "log.tmp") {
		t.Error("log.tmp went without power")
	}
}

// P502: which files are the log's, and in which order they are read.
func TestOpenNames(t *testing.T) {
	for _, c := range []struct {
		name string
		its  bool
	}{
		{"log-00000001", true}, {"log-00000010", true}, {"log-99999999", true}, {"log-12345678", true},
		{"log-00000000", false}, {"log-0000001", false}, {"log-000000001", false}, {"log-100000000", false},
		{"log-0000000a", false}, {"log-a0000001", false}, {"log-0000a001", false}, {"log-+0000001", false}, {"log--0000001", false},
		{"log_00000001", false}, {"Log-00000001", false}, {"00000001", false}, {"log-", false}, {"log", false},
		{"xlog-00000001", false}, {"log-00000001.", false}, {"log-0x000001", false}, {"log-1_000_00", false}, {"log-0000.001", false},
		{"snap-0000000000001", false}, {"vote", false},
	} {
		d := newDisk(t, 1000)
		lay(t, d, c.name, entryBytes(at(1, 1)))
		if got := open(t, d).Last() == 1; got != c.its {
			t.Errorf("%s: read %v", c.name, got)
		}
	}
	d := newDisk(t, 1000)
	lay(t, d, "log-00000100", entryBytes(at(4, 1)))
	lay(t, d, "log-00000002", entryBytes(at(2, 1)))
	lay(t, d, "log-00000001", entryBytes(at(1, 1)))
	lay(t, d, "log-00000010", entryBytes(at(3, 1)))
	wantState(t, "rising", open(t, d), state{list: []api.Entry{at(1, 1), at(2, 1), at(3, 1), at(4, 1)}})
}

// P502: which records fit, and what they say.
func TestOpenFits(t *testing.T) {
	row := func(l ...api.Entry) []api.Entry { return l }
	onto := func(more ...[]byte) [][]byte {
		return append([][]byte{entryBytes(at(1, 1), at(2, 2), at(3, 2))}, more...)
	}
	based := func(more ...[]byte) [][]byte { return append([][]byte{baseBytes(5, 3)}, more...) }
	all := row(at(1, 1), at(2, 2), at(3, 2))
	good := entryBytes(at(4, 9))
	long := make([]byte, 65536)
	wrongEntry := func(b ...byte) []byte { return framed(1, b) }
	for i, c := range []struct {
		parts [][]byte
		want  state
	}{
		{nil, state{}},
		{onto(), state{list: all}},
		{onto(good), state{list: append(slices.Clone(all), at(4, 9))}},
		{onto(entryBytes(at(4, 2))), state{list: append(slices.Clone(all), at(4, 2))}},
		{onto(entryBytes(at(4, 1)), good), state{list: all}}, // its term falls
		{onto(entryBytes(at(5, 3)), good), state{list: all}}, // a gap
		{onto(entryBytes(at(3, 7))), state{list: row(at(1, 1), at(2, 2), at(3, 7))}},
		{onto(entryBytes(at(3, 1)), good), state{list: all}},
		{onto(entryBytes(at(2, 1))), state{list: row(at(1, 1), at(2, 1))}},
		{onto(entryBytes(at(1, 9)), entryBytes(at(2, 9))), state{list: row(at(1, 9), at(2, 9))}},
		{onto(entryBytes(at(2, 2)), good), state{list: row(at(1, 1), at(2, 2))}},
		{onto(cutBytes(3)), state{list: all[:2]}},
		{onto(cutBytes(1)), state{}},
		{onto(cutBytes(2), entryBytes(at(2, 1))), state{list: row(at(1, 1), at(2, 1))}},
		{onto(cutBytes(4), good), state{list: all}},
		{onto(cutBytes(0), good), state{list: all}},
		{onto(cutBytes(1<<48-1), good), state{list: all}},
		{onto(cutBytes(1), cutBytes(1), entryBytes(at(1, 9))), state{}},
		{onto(framed(2), good), state{list: all}},
		{onto(framed(2, num(3), num(3)), good), state{list: all}},
		{onto(framed(2, []byte{9}), good), state{list: all}},
		{onto(framed(2, []byte{2, 3, 0}), good), state{list: all}},
		{onto(baseBytes(2, 2)), state{2, 2, all[2:]}},
		{onto(baseBytes(3, 2)), state{3, 2, nil}},
		{onto(baseBytes(1, 1), good), state{1, 1, row(at(2, 2), at(3, 2), at(4, 9))}},
		{onto(baseBytes(2, 1), good), state{2, 1, nil}},
		{onto(baseBytes(2, 1), entryBytes(at(3, 1))), state{2, 1, row(at(3, 1))}},
		{onto(baseBytes(4, 2)), state{4, 2, nil}},
		{onto(baseBytes(9, 1)), state{9, 1, nil}},
		{onto(baseBytes(0, 0), good), state{list: append(slices.Clone(all), at(4, 9))}},
		{onto(baseBytes(0, 7), good), state{list: append(slices.Clone(all), at(4, 9))}},
		{onto(framed(3), good), state{list: all}},
		{onto(framed(3, num(9)), good), state{list: all}},
		{onto(framed(3, num(9), num(9), num(9)), good), state{list: all}},
		{onto(framed(3, num(9), num(9), []byte{7}), good), state{list: all}},
		{onto(framed(0, num(2)), good), state{list: all}},
		{onto(framed(4, num(2), num(2)), good), state{list: all}},
		{onto(framed(5, num(2)), good), state{list: all}},
		{onto(framed(255, num(2)), good), state{list: all}},
		{onto(framed(0), good), state{list: all}},
		{onto(framed(7, long), good), state{list: all}},
		{onto(wrongEntry(), good), state{list: all}},
		{onto(wrongEntry(1, 9, 1, 4, 1, 2), good), state{list: all}},
		{onto(wrongEntry(1, 9, 1, 4, 1, 2, 0, 0), good), state{list: all}},
		{onto(wrongEntry(1, 9, 1, 4, 1, 4, 0), good), state{list: all}},
		{onto(wrongEntry(0, 1, 4, 1, 2, 0), good), state{list: all}},
		{onto(wrongEntry(1, 9, 1, 4, 1, 2, 0)), state{list: append(slices.Clone(all), api.Entry{Term: 9, Index: 4, Kind: api.Command})}},
		{based(), state{5, 3, nil}},
		{based(entryBytes(at(6, 3))), state{5, 3, row(at(6, 3))}},
		{based(entryBytes(at(6, 2))), state{5, 3, nil}},
		{based(entryBytes(at(7, 3)), entryBytes(at(6, 3))), state{5, 3, nil}},
		{based(entryBytes(at(5, 1), at(4, 9), at(1, 1), at(6, 3), at(5, 9), at(7, 3))), state{5, 3, row(at(6, 3), at(7, 3))}},
		{based(baseBytes(5, 9), baseBytes(4, 1), baseBytes(1, 1), entryBytes(at(6, 3))), state{5, 3, row(at(6, 3))}},
		{based(baseBytes(6, 1), entryBytes(at(7, 1))), state{6, 1, row(at(7, 1))}},
		{based(cutBytes(5), entryBytes(at(6, 3))), state{5, 3, nil}},
		{based(cutBytes(6), entryBytes(at(6, 3))), state{5, 3, nil}},
		{based(entryBytes(at(6, 4)), cutBytes(6), entryBytes(at(6, 3))), state{5, 3, row(at(6, 3))}},
		{based(entryBytes(at(6, 4), at(7, 4), at(6, 3))), state{5, 3, row(at(6, 3))}},
		{based(entryBytes(at(6, 4), at(7, 4), at(6, 2), at(8, 4))), state{5, 3, row(at(6, 4), at(7, 4))}},
		{[][]byte{baseBytes(1<<48-1, 1<<48-1), good}, state{1<<48 - 1, 1<<48 - 1, nil}},
		{[][]byte{baseBytes(7, 0), entryBytes(at(8, 1))}, state{7, 0, row(at(8, 1))}},
		{[][]byte{cutBytes(1), entryBytes(at(1, 1))}, state{}},
		{[][]byte{cutBytes(0), entryBytes(at(1, 1))}, state{}},
	} {
		wantState(t, fmt.Sprint("case ", i), open(t, laid(t, bytes.Join(c.parts, nil))), c.want)
	}
}

// P502: a record that does not fit ends its own file; the next files are read.
func TestOpenGoesOn(t *testing.T) {
	whole := entryBytes(at(1, 1), at(2, 1))
	one := len(entryBytes(at(1, 1)))
	for i, c := range []struct {
		files [][]byte
		want  state
	}{
		{[][]byte{whole[:len(whole)-1], entryBytes(at(2, 5))}, state{list: []api.Entry{at(1, 1), at(2, 5)}}},
		{[][]byte{whole[:one], entryBytes(at(2, 5))}, state{list: []api.Entry{at(1, 1), at(2, 5)}}},
		{[][]byte{whole[:one-1], entryBytes(at(1, 5))}, state{list: []api.Entry{at(1, 5)}}},
		{[][]byte{whole, nil, nil, cutBytes(2)}, state{list: []api.Entry{at(1, 1)}}},
		{[][]byte{bytes.Join([][]byte{whole, cutBytes(9), cutBytes(1)}, nil), entryBytes(at(3, 1))}, state{list: []api.Entry{at(1, 1), at(2, 1), at(3, 1)}}},
		{[][]byte{entryBytes(at(9, 1)), whole}, state{list: []api.Entry{at(1, 1), at(2, 1)}}},
		{[][]byte{[]byte("what is this?"), cutBytes(1), whole}, state{list: []api.Entry{at(1, 1), at(2, 1)}}},
	} {
		wantState(t, fmt.Sprint("case ", i), open(t, laid(t, c.files...)), c.want)
	}
}

// P502: files that tell more than MaxLog entries are told whole; there is no room for more.
func TestOpenMany(t *testing.T) {
	var l []api.Entry
	for i := range api.MaxLog + 3 {
		l = append(l, api.Entry{Term: 1, Index: i + 1, Kind: api.Nothing})
	}
	d := laid(t, entryBytes(l...))
	log := open(t, d)
	wantState(t, "many", log, state{list: l})
	wantErr(t, "Append", log.Append(at(api.MaxLog+4, 1)), api.ErrFull)
	done(t, log.Rebase(4, 1), log.Append(at(api.MaxLog+4, 1)))
	wantErr(t, "Append", log.Append(at(api.MaxLog+5, 1)), api.ErrFull)
}

// P503: Append.
func TestAppend(t *testing.T) {
	d := newDisk(t, api.MaxBytes)
	l := open(t, d)
	for i, c := range []struct {
		x    []api.Entry
		want api.Errno
	}{
		{nil, api.ErrArg},
		{[]api.Entry{}, api.ErrArg},
		{[]api.Entry{{}}, api.ErrArg},
		{[]api.Entry{at(1, 0)}, api.ErrArg},
		{[]api.Entry{at(0, 1)}, api.ErrArg},
		{[]api.Entry{at(-1, 1)}, api.ErrArg},
		{[]api.Entry{at(1, api.MaxTerm)}, api.ErrArg},
		{[]api.Entry{at(1<<40, 1)}, api.ErrArg},
		{[]api.Entry{at(math.MaxInt, math.MaxInt)}, api.ErrArg},
		{[]api.Entry{at(1<<40-1, 1)}, api.ErrGap},
		{[]api.Entry{{Term: 1, Index: 1, Kind: 4}}, api.ErrArg},
		{[]api.Entry{{Term: 1, Index: 1, Kind: api.Nothing, Data: []byte{1}}}, api.ErrArg},
		{[]api.Entry{{Term: 1, Index: 1, Kind: api.Servers, Data: []byte{1}}}, api.ErrArg},
		{[]api.Entry{sized(1, 1, 4097)}, api.ErrArg},
		{[]api.Entry{at(2, 1)}, api.ErrGap},
		{[]api.Entry{at(2, 1), at(0, 1)}, api.ErrArg}, // ErrArg is named first
		{[]api.Entry{at(1, 1), at(1, 1)}, api.ErrGap},
		{[]api.Entry{at(1, 1), at(3, 1)}, api.ErrGap},
		{[]api.Entry{at(1, 2), at(2, 1)}, api.ErrGap},
		{[]api.Entry{at(1, 2), at(2, 3), at(3, 3), {Term: 4, Index: 4, Kind: api.Nothing}}, api.OK},
		{[]api.Entry{at(4, 4)}, api.ErrGap},
		{[]api.Entry{at(6, 4)}, api.ErrGap},
		{[]api.Entry{at(5, 3)}, api.ErrGap},
		{[]api.Entry{at(5, 4), at(6, 3)}, api.ErrGap},
		{[]api.Entry{{Term: 4, Index: 5, Kind: api.Servers, Data: []byte{1, 1, 1, 2}}}, api.OK},
		{[]api.Entry{at(6, api.MaxTerm-1)}, api.OK},
		{[]api.Entry{at(7, 4)}, api.ErrGap},
		{[]api.Entry{sized(7, api.MaxTerm-1, 4096)}, api.OK},
	} {
		ahead, used := tell(t, l), d.Used()
		got := l.Append(c.x...)
		wantErr(t, fmt.Sprint("case ", i), got, c.want)
		if c.want == api.OK {
			ahead.list = append(ahead.list, c.x...)
		} else if d.Used() != used {
			t.Errorf("case %d: refused, yet written", i)
		}
		wantState(t, fmt.Sprint("case ", i), l, ahead)
		wantState(t, fmt.Sprint("case ", i, " again"), open(t, d), ahead)
	}
}

// P503: MaxLog.
func TestAppendFull(t *testing.T) {
	d := newDisk(t, api.MaxBytes)
	l := open(t, d)
	small := func(from, to int) []api.Entry {
		var x []api.Entry
		for i := from; i <= to; i++ {
			x = append(x, api.Entry{Term: 1, Index: i, Kind: api.Nothing})
		}
		return x
	}
	wantErr(t, "all and one", l.Append(small(1, api.MaxLog+1)...), api.ErrFull)
	wantErr(t, "a gap, and too many", l.Append(small(2, api.MaxLog+2)...), api.ErrGap)
	done(t, l.Append(small(1, api.MaxLog-1)...))
	wantErr(t, "two more", l.Append(small(api.MaxLog, api.MaxLog+1)...), api.ErrFull)
	done(t, l.Append(small(api.MaxLog, api.MaxLog)...))
	wantErr(t, "one more", l.Append(small(api.MaxLog+1, api.MaxLog+1)...), api.ErrFull)
	wantErr(t, "a gap", l.Append(small(api.MaxLog+2, api.MaxLog+2)...), api.ErrGap)
	wantState(t, "full", l, state{list: small(1, api.MaxLog)})
	done(t, l.Cut(api.MaxLog), l.Append(small(api.MaxLog, api.MaxLog)...))
	done(t, l.Rebase(10, 1), l.Append(small(api.MaxLog+1, api.MaxLog+10)...))
	wantErr(t, "above a base", l.Append(small(api.MaxLog+11, api.MaxLog+11)...), api.ErrFull)
	wantState(t, "full, again", open(t, d), state{10, 1, small(11, api.MaxLog+10)})
}

// P503: Cut.
func TestCut(t *testing.T) {
	d := newDisk(t, 10000)
	l := open(t, d)
	for _, from := range []int{0, 1, -1, math.MinInt, math.MaxInt} {
		wantErr(t, "nothing to cut", l.Cut(from), api.ErrGap)
	}
	done(t, l.Append(at(1, 1), at(2, 1), at(3, 2), at(4, 2)), l.Rebase(1, 1))
	for _, from := range []int{1, 0, -1, 5, 6, math.MinInt, math.MaxInt, 1 << 48} {
		wantErr(t, fmt.Sprint("Cut ", from), l.Cut(from), api.ErrGap)
	}
	wantState(t, "none cut", l, state{1, 1, []api.Entry{at(2, 1), at(3, 2), at(4, 2)}})
	done(t, l.Cut(4))
	wantErr(t, "cut twice", l.Cut(4), api.ErrGap)
	wantState(t, "one cut", l, state{1, 1, []api.Entry{at(2, 1), at(3, 2)}})
	done(t, l.Append(at(4, 3)), l.Cut(3), l.Append(at(3, 1)))
	wantState(t, "others", l, state{1, 1, []api.Entry{at(2, 1), at(3, 1)}})
	done(t, l.Cut(2))
	wantState(t, "all cut", l, state{1, 1, nil})
	wantState(t, "all cut, again", open(t, d), state{1, 1, nil})
}

// P503: Rebase.
func TestRebase(t *testing.T) {
	begin := func() (*vdisk.Disk, *seglog.Log) {
		d := newDisk(t, 10000)
		l := open(t, d)
		done(t, l.Append(at(1, 1), at(2, 1), at(3, 2), at(4, 2)), l.Rebase(1, 1), l.Append(at(5, 7)))
		return d, l
	}
	rest := []api.Entry{at(2, 1), at(3, 2), at(4, 2), at(5, 7)}
	for _, c := range []struct {
		index, term int
		e           api.Errno
		want        state
	}{
		{0, 1, api.ErrArg, state{1, 1, rest}},
		{-1, 1, api.ErrArg, state{1, 1, rest}},
		{math.MinInt, 1, api.ErrArg, state{1, 1, rest}},
		{1 << 40, 1, api.ErrArg, state{1, 1, rest}},
		{math.MaxInt, 1, api.ErrArg, state{1, 1, rest}},
		{2, 0, api.ErrArg, state{1, 1, rest}},
		{2, -1, api.ErrArg, state{1, 1, rest}},
		{2, math.MinInt, api.ErrArg, state{1, 1, rest}},
		{2, api.MaxTerm, api.ErrArg, state{1, 1, rest}},
		{2, math.MaxInt, api.ErrArg, state{1, 1, rest}},
		{1, 0, api.ErrArg, state{1, 1, rest}},
		{1, 1, api.ErrBelow, state{1, 1, rest}},
		{1, 9, api.ErrBelow, state{1, 1, rest}},
		{2, 1, api.OK, state{2, 1, rest[1:]}},
		{3, 2, api.OK, state{3, 2, rest[2:]}},
		{5, 7, api.OK, state{5, 7, nil}},
		{2, 2, api.OK, state{2, 2, nil}},
		{3, 1, api.OK, state{3, 1, nil}},
		{5, 6, api.OK, state{5, 6, nil}},
		{6, 7, api.OK, state{6, 7, nil}},
		{6, 1, api.OK, state{6, 1, nil}},
		{1<<40 - 1, api.MaxTerm - 1, api.OK, state{1<<40 - 1, api.MaxTerm - 1, nil}},
	} {
		d, l := begin()
		what := fmt.Sprintf("Rebase(%d, %d)", c.index, c.term)
		wantErr(t, what, l.Rebase(c.index, c.term), c.e)
		wantState(t, what, l, c.want)
		wantState(t, what+" again", open(t, d), c.want)
		if c.e != api.OK {
			continue
		}
		wantErr(t, what+" twice", l.Rebase(c.index, c.term), api.ErrBelow)
		d.Crash(nil) // the elder files come back
		wantState(t, what+" behind a crash", open(t, d), c.want)
	}
}

const maxIndex = 1<<40 - 1

// P503, P505: at the last index there is no next one.
func TestLastIndex(t *testing.T) {
	l := open(t, newDisk(t, 1000))
	done(t, l.Rebase(maxIndex-1, 3), l.Append(at(maxIndex, 3)))
	wantErr(t, "Append", l.Append(at(maxIndex+1, 3)), api.ErrArg)
	wantState(t, "last", l, state{maxIndex - 1, 3, []api.Entry{at(maxIndex, 3)}})
	done(t, l.Cut(maxIndex), l.Append(at(maxIndex, 4)), l.Rebase(maxIndex, 4))
	wantErr(t, "Rebase", l.Rebase(maxIndex+1, 4), api.ErrArg)
	wantState(t, "base", l, state{maxIndex, 4, nil})
}

// P505: looks at the edges.
func TestLooks(t *testing.T) {
	l := open(t, newDisk(t, 10000))
	if n, e := l.Term(0); n != 0 || e != api.OK {
		t.Errorf("Term(0) of the empty log: %d, %d", n, e)
	}
	done(t, l.Append(at(1, 1), at(2, 1), at(3, 2), at(4, 5), at(5, 6)), l.Rebase(2, 1))
	for _, c := range []struct {
		i, term int
		e       api.Errno
	}{
		{math.MinInt, 0, api.ErrBelow}, {-1, 0, api.ErrBelow}, {0, 0, api.ErrBelow}, {1, 0, api.ErrBelow},
		{2, 1, api.OK}, {3, 2, api.OK}, {4, 5, api.OK}, {5, 6, api.OK},
		{6, 0, api.ErrNone}, {7, 0, api.ErrNone}, {math.MaxInt, 0, api.ErrNone},
	} {
		if n, e := l.Term(c.i); n != c.term || e != c.e {
			t.Errorf("Term(%d): %d, %d, want %d, %d", c.i, n, e, c.term, c.e)
		}
	}
	all := []api.Entry{at(3, 2), at(4, 5), at(5, 6)}
	for _, from := range []int{math.MinInt, math.MinInt + 1, -1, 0, 1, 2, 3, 4, 5, 6, 7, math.MaxInt - 1, math.MaxInt} {
		for _, most := range []int{math.MinInt, -1, 0, 1, 2, 3, 4, math.MaxInt} {
			var want []api.Entry
			for _, x := range all {
				if x.Index >= from && len(want) < most {
					want = append(want, x)
				}
			}
			got := l.Entries(from, most)
			if fmt.Sprint(got) != fmt.Sprint(want) {
				t.Errorf("Entries(%d, %d): %v, want %v", from, most, got, want)
			}
		}
	}
	if x := open(t, newDisk(t, 10)).Entries(0, 9); len(x) != 0 {
		t.Errorf("Entries of the empty log: %v", x)
	}
}

// spoil: writes into all that a list of entries holds, and into the room behind it.
func spoil(l []api.Entry) {
	for i := range l {
		b := l[i].Data[:cap(l[i].Data)]
		for k := range b {
			b[k] = 0xee
		}
	}
	l = l[:cap(l)]
	for i := range l {
		l[i] = api.Entry{Term: 99, Index: 99, Kind: 99, Data: []byte("spoilt")}
	}
}

// P501: nothing is shared with what is handed in or answered.
func TestMemory(t *testing.T) {
	d := newDisk(t, 10000)
	l := open(t, d)
	room := make([]byte, 8)
	copy(room, "abcdefgh")
	x := make([]api.Entry, 3, 5)
	for i := range x {
		x[i] = api.Entry{Term: 1, Index: i + 1, Kind: api.Command, Data: room[i : i+2]}
	}
	want := state{list: []api.Entry{
		{Term: 1, Index: 1, Kind: api.Command, Data: []byte("ab")},
		{Term: 1, Index: 2, Kind: api.Command, Data: []byte("bc")},
		{Term: 1, Index: 3, Kind: api.Command, Data: []byte("cd")},
	}}
	before := fmt.Sprint(x[:5], room)
	done(t, l.Append(x...))
	if after := fmt.Sprint(x[:5], room); after != before {
		t.Errorf("Append changed what it was handed: %s, was %s", after, before)
	}
	spoil(x)
	wantState(t, "handed in and spoilt", l, want)
	for _, log := range []*seglog.Log{l, open(t, d)} {
		one, two := log.Entries(0, 9), log.Entries(2, 1)
		spoil(one[:1])
		spoil(one)
		if fmt.Sprint(two) != fmt.Sprint(want.list[1:2]) {
			t.Errorf("two answers share: %v", two)
		}
		spoil(two)
		wantState(t, "answered and spoilt", log, want)
		three := log.Entries(0, 9)
		_ = append(three[0].Data, "xyz"...)
		_ = append(three[1].Data, "xyz"...)
		if fmt.Sprint(three) != fmt.Sprint(want.list) {
			t.Errorf("lists of one answer share: %v", three)
		}
	}
	done(t, l.Rebase(1, 1))
	spoil(l.Entries(0, 9))
	wantState(t, "rebased", l, state{1, 1, want.list[1:]})
	wantState(t, "rebased, again", open(t, d), state{1, 1, want.list[1:]})
}

// P501: logs on disks of their own don't meet.
func TestTwoLogs(t *testing.T) {
	a, b := open(t, newDisk(t, 1000)), open(t, newDisk(t, 1000))
	done(t, a.Append(at(1, 1), at(2, 1)), b.Append(at(1, 7)), a.Rebase(1, 1), b.Sync())
	wantState(t, "a", a, state{1, 1, []api.Entry{at(2, 1)}})
	wantState(t, "b", b, state{0, 0, []api.Entry{at(1, 7)}})
}
