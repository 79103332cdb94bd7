package stable_test

import (
	"bytes"
	"encoding/binary"
	"fmt"
	"hash/crc32"
	"math"
	"math/rand"
	"strings"
	"testing"

	"hustings/api"
	"hustings/stable"
	"hustings/vdisk"
)

func newDisk(t *testing.T, quota int) *vdisk.Disk {
	t.Helper()
	d, e := vdisk.New(quota)
	if e != api.OK {
		t.Fatalf("New(%d): %d", quota, e)
	}
	return d
}

// done: all calls, made in a row, must have answered OK.
func done(t *testing.T, errs ...api.Errno) {
	t.Helper()
	for i, e := range errs {
		if e != api.OK {
			t.Fatalf("call %d: %d", i, e)
		}
	}
}

func wantErr(t *testing.T, what string, got, want api.Errno) {
	t.Helper()
	if got != want {
		t.Errorf("%s: %d, want %d", what, got, want)
	}
}

func wantLoad(t *testing.T, what string, d *vdisk.Disk, want stable.Vote) {
	t.Helper()
	if v, e := stable.Load(d); v != want || e != api.OK {
		t.Errorf("%s: Load: %v, %d, want %v", what, v, e, want)
	}
}

// files: of a disk, with their bytes.
func files(t *testing.T, d *vdisk.Disk) string {
	t.Helper()
	var l []string
	for _, name := range d.List() {
		b, e := d.Read(name)
		done(t, e)
		l = append(l, fmt.Sprintf("%s=%x", name, b))
	}
	return strings.Join(l, " ")
}

func wantFiles(t *testing.T, what string, d *vdisk.Disk, want string) {
	t.Helper()
	if got := files(t, d); got != want {
		t.Errorf("%s: files %q, want %q", what, got, want)
	}
}

// num: a number's bytes, by another way than the program's.
func num(n int) []byte {
	var b [8]byte
	binary.LittleEndian.PutUint64(b[:], uint64(n))
	l := bytes.TrimRight(b[:], "\x00")
	return append([]byte{byte(len(l))}, l...)
}

// framed: parts as a frame, by another way than the program's.
func framed(kind byte, parts ...[]byte) []byte {
	data := bytes.Join(parts, nil)
	body := append([]byte{kind}, data...)
	b := binary.LittleEndian.AppendUint32(nil, uint32(len(data)))
	b = binary.LittleEndian.AppendUint32(b, crc32.Checksum(body, crc32.MakeTable(crc32.Castagnoli)))
	return append(b, body...)
}

// voteBytes: a Vote's bytes, whether it may be or not.
func voteBytes(v stable.Vote) []byte {
	return framed(4, num(v.Term), num(v.For+1))
}

// right: Votes that may be, the edges among them.
func right() []stable.Vote {
	var l []stable.Vote
	for _, term := range []int{0, 1, 2, 255, 256, 65535, 65536, 1<<39 - 1, 1 << 39, api.MaxTerm - 2, api.MaxTerm - 1} {
		for who := -1; who < api.MaxID; who++ {
			l = append(l, stable.Vote{Term: term, For: who})
		}
	}
	return l
}

// wrong: Votes that may not be.
func wrong() []stable.Vote {
	var l []stable.Vote
	for _, term := range []int{-1, -2, math.MinInt, math.MinInt + 1, api.MaxTerm, api.MaxTerm + 1, 1<<48 - 1, 1 << 48, math.MaxInt} {
		l = append(l, stable.Vote{Term: term}, stable.Vote{Term: term, For: -1}, stable.Vote{Term: term, For: 15}, stable.Vote{Term: term, For: 16})
	}
	for _, who := range []int{-2, -3, math.MinInt, api.MaxID, api.MaxID + 1, 255, 256, 1<<48 - 1, math.MaxInt - 1, math.MaxInt} {
		l = append(l, stable.Vote{For: who}, stable.Vote{Term: 1, For: who}, stable.Vote{Term: api.MaxTerm - 1, For: who})
	}
	return l
}

// P602: bytes that are written out here.
func TestPutBytes(t *testing.T) {
	for v, want := range map[stable.Vote]string{
		{Term: 0, For: -1}: "\x02\x00\x00\x00\x60\x07\xba\xfe\x04\x00\x00",
		{Term: 3, For: 2}:  "\x04\x00\x00\x00\xcd\xc9\xae\x92\x04\x01\x03\x01\x03",
		{Term: 300}:        "\x05\x00\x00\x00\x31\x5b\x36\x8b\x04\x02\x2c\x01\x01\x01",
	} {
		if b, e := stable.Put(v); string(b) != want || e != api.OK {
			t.Errorf("Put(%v): %x, %d, want %x", v, b, e, want)
		}
	}
}

// P602: there and back, all that may be at the edges.
func TestThereAndBack(t *testing.T) {
	for _, v := range right() {
		b, e := stable.Put(v)
		if e != api.OK || !bytes.Equal(b, voteBytes(v)) {
			t.Errorf("Put(%v): %x, %d, want %x", v, b, e, voteBytes(v))
		}
		if got, e := stable.Get(b); got != v || e != api.OK {
			t.Errorf("Get(%x): %v, %d, want %v", b, got, e, v)
		}
	}
}

// P602: what may not be is not put.
func TestPutRefuses(t *testing.T) {
	for _, v := range wrong() {
		if b, e := stable.Put(v); len(b) != 0 || e != api.ErrArg {
			t.Errorf("Put(%v): %x, %d", v, b, e)
		}
	}
}

func wantNoVote(t *testing.T, b []byte) {
	t.Helper()
	if v, e := stable.Get(b); v != (stable.Vote{}) || e != api.ErrForm {
		t.Errorf("Get(%x): %v, %d", b, v, e)
	}
}

// notVotes: bytes, each with one fault.
func notVotes() [][]byte {
	good := voteBytes(stable.Vote{Term: 300, For: 2})
	l := [][]byte{
		nil,
		{},
		{0},
		[]byte("x"),
		append(bytes.Clone(good), 0),
		append([]byte{0}, good...),
		append(bytes.Clone(good), good...),
		append(bytes.Clone(good), framed(4)...),
		append(framed(4), good...),
		append(framed(1), good...),
		good[4:],
		good[9:],
		framed(4),
		framed(4, num(3)),
		framed(4, num(3), num(3), num(0)),
		framed(4, num(3), num(3), []byte{7}),
		framed(4, num(3), num(17)),
		framed(4, num(3), num(256)),
		framed(4, num(3), num(1<<48-1)),
		framed(4, num(api.MaxTerm), num(3)),
		framed(4, num(1<<48-1), num(3)),
		framed(4, []byte{1, 0}, num(3)),       // a last byte that is 0
		framed(4, num(3), []byte{1, 0}),       // so, too
		framed(4, []byte{2, 3, 0}, num(3)),    // so, too
		framed(4, num(3), []byte{2, 3}),       // too few bytes
		framed(4, num(3), []byte{7, 3, 3, 3}), // a count above 6
		framed(4, bytes.Repeat([]byte{0}, 65536)),
	}
	for kind := range 256 {
		if kind != 4 {
			l = append(l, framed(byte(kind), num(300), num(3)))
		}
	}
	for i := range good {
		l = append(l, good[:i])
		for turn := 1; turn < 256; turn++ {
			b := bytes.Clone(good)
			b[i] ^= byte(turn)
			l = append(l, b)
		}
	}
	return l
}

// P602: bytes that are none are not got.
func TestGetRefuses(t *testing.T) {
	for _, b := range notVotes() {
		wantNoVote(t, b)
	}
	for _, v := range wrong() {
		if v.Term >= 0 && v.Term < 1<<48 && v.For >= -1 && v.For < 1<<48-1 {
			wantNoVote(t, voteBytes(v))
		}
	}
}

// P602: of any bytes an error, or a Vote that is put as the same bytes; short data with a right sum, and all of it.
func TestGetAny(t *testing.T) {
	r := rand.New(rand.NewSource(1))
	found := 0
	for range 20000 {
		data := make([]byte, r.Intn(8))
		for i := range data {
			data[i] = byte(r.Intn(20))
			if r.Intn(3) == 0 {
				data[i] = byte(r.Intn(3))
			}
		}
		b := framed(4, data)
		v, e := stable.Get(b)
		if e != api.OK {
			wantNoVote(t, b)
			continue
		}
		found++
		if !bytes.Equal(voteBytes(v), b) || v.Term < 0 || v.Term >= api.MaxTerm || v.For < -1 || v.For >= api.MaxID {
			t.Errorf("Get(%x): %v", b, v)
		}
	}
	if found < 100 {
		t.Error("only", found, "were Votes")
	}
}

// spoil: writes into a list and into all the room behind it.
func spoil(b []byte) {
	for i := range b[:cap(b)] {
		b[:cap(b)][i] ^= 0xa5
	}
}

// P601: pure functions: nothing handed in is changed, answers share nothing.
func TestMemory(t *testing.T) {
	v := stable.Vote{Term: 300, For: 2}
	one, _ := stable.Put(v)
	two, _ := stable.Put(v)
	spoil(one)
	if !bytes.Equal(two, voteBytes(v)) {
		t.Error("two answers of Put share memory")
	}
	in := append(voteBytes(v), "room"...)[:len(two)]
	stable.Get(in)
	if string(in[:len(in)+4]) != string(two)+"room" {
		t.Error("Get changed what it was handed, or the room behind it")
	}
}

// P603: a disk that is nil, or was not made.
func TestNoDisk(t *testing.T) {
	for what, d := range map[string]*vdisk.Disk{"nil": nil, "not made": {}} {
		if v, e := stable.Load(d); v != (stable.Vote{}) || e != api.ErrArg {
			t.Errorf("%s: Load: %v, %d", what, v, e)
		}
		for _, v := range []stable.Vote{{}, {Term: 3, For: 2}, {For: 16}, {Term: -1}} {
			wantErr(t, what+": Save", stable.Save(d, v), api.ErrArg)
		}
	}
}

// P603: without a file, nobody in term 0, whatever else is there.
func TestLoadNone(t *testing.T) {
	d := newDisk(t, 1000)
	nobody := stable.Vote{Term: 0, For: -1}
	wantLoad(t, "an empty disk", d, nobody)
	b := voteBytes(stable.Vote{Term: 3, For: 2})
	for _, name := range []string{"vote.tmp", "votes", "Vote", "vot", "log-00000001"} {
		done(t, d.Create(name), d.Append(name, b))
	}
	wantLoad(t, "other files", d, nobody)
}

// lay: a file of those bytes, which lasts.
func lay(t *testing.T, d *vdisk.Disk, name string, b []byte) {
	t.Helper()
	done(t, d.Create(name), d.Append(name, b), d.Sync(name), d.SyncDir())
}

// P603: Load tells Get's answer and Get's error, and changes nothing.
func TestLoad(t *testing.T) {
	for _, v := range right() {
		d := newDisk(t, 1000)
		lay(t, d, "vote", voteBytes(v))
		wantLoad(t, "laid", d, v)
	}
	for _, b := range notVotes() {
		d := newDisk(t, 1<<18)
		lay(t, d, "vote", b)
		lay(t, d, "vote.tmp", voteBytes(stable.Vote{Term: 3, For: 2}))
		before := files(t, d)
		if v, e := stable.Load(d); v != (stable.Vote{}) || e != api.ErrForm {
			t.Errorf("Load of %x: %v, %d", b, v, e)
		}
		wantFiles(t, "Load", d, before)
	}
}

// P603: Load goes on without power, and uses up none.
func TestLoadWithoutPower(t *testing.T) {
	d := newDisk(t, 1000)
	v := stable.Vote{Term: 3, For: 2}
	lay(t, d, "vote", voteBytes(v))
	d.Cut(0)
	wantLoad(t, "at the end of the fuse", d, v)
	if d.Down() {
		t.Error("Load made a change")
	}
	wantErr(t, "SyncDir", d.SyncDir(), api.ErrPower)
	wantLoad(t, "without power", d, v)
}

// P603: a Vote that may not be is not saved: no step is done.
func TestSaveRefuses(t *testing.T) {
	d := newDisk(t, 1000)
	done(t, stable.Save(d, stable.Vote{Term: 3, For: 2}))
	lay(t, d, "vote.tmp", []byte("rest"))
	before := files(t, d)
	d.Cut(0)
	for _, v := range wrong() {
		wantErr(t, fmt.Sprint("Save ", v), stable.Save(d, v), api.ErrArg)
	}
	wantFiles(t, "refused", d, before)
	if d.Down() {
		t.Error("a step was done")
	}
	wantErr(t, "Save", stable.Save(d, stable.Vote{}), api.ErrPower)
	wantErr(t, "Save behind it", stable.Save(d, stable.Vote{For: 16}), api.ErrArg)
}

// P603: what is saved is loaded, in any order of terms, also an equal one and one for another.
func TestSave(t *testing.T) {
	d := newDisk(t, 1000)
	for _, v := range append(right(), stable.Vote{Term: 5, For: 1}, stable.Vote{Term: 5, For: 1}, stable.Vote{Term: 5, For: 2}, stable.Vote{Term: 0, For: -1}) {
		done(t, stable.Save(d, v))
		wantLoad(t, "saved", d, v)
		wantFiles(t, "saved", d, fmt.Sprintf("vote=%x", voteBytes(v)))
		d.Crash(nil)
		wantLoad(t, "saved, crashed", d, v)
	}
}

// P603: Save mends a file vote that is none.
func TestSaveOverOther(t *testing.T) {
	d := newDisk(t, 1000)
	lay(t, d, "vote", []byte("other"))
	done(t, stable.Save(d, stable.Vote{Term: 3, For: 2}))
	wantLoad(t, "saved", d, stable.Vote{Term: 3, For: 2})
}

// P603: the steps, one by one, as the power going behind each of them shows.
func TestSaveSteps(t *testing.T) {
	elder, next := stable.Vote{Term: 3, For: 2}, stable.Vote{Term: 4, For: -1}
	was, is := fmt.Sprintf("vote=%x", voteBytes(elder)), fmt.Sprintf("vote=%x", voteBytes(next))
	whole := fmt.Sprintf("%x", voteBytes(next))
	steps := []string{was + " vote.tmp=72657374", was, was + " vote.tmp=", was + " vote.tmp=" + whole, was + " vote.tmp=" + whole, is, is}
	for _, rest := range []bool{true, false} {
		for n, want := range steps {
			if !rest && n == 0 {
				continue
			}
			d := newDisk(t, 1000)
			done(t, stable.Save(d, elder))
			if rest {
				lay(t, d, "vote.tmp", []byte("rest"))
				d.Cut(n)
			} else {
				d.Cut(n - 1)
			}
			wantE := api.ErrPower
			if n == len(steps)-1 {
				wantE = api.OK
			}
			wantErr(t, fmt.Sprint("Save, power for ", n), stable.Save(d, next), wantE)
			wantFiles(t, fmt.Sprint("power for ", n), d, want)
		}
	}
}

// P603: what each step has made sure of, as a crash that keeps as little as it may shows.
func TestSaveSyncs(t *testing.T) {
	next := stable.Vote{Term: 4, For: -1}
	for n, want := range []string{"", "vote.tmp=", "vote.tmp=", fmt.Sprintf("vote.tmp=%x", voteBytes(next)), fmt.Sprintf("vote=%x", voteBytes(next))} {
		d := newDisk(t, 1000)
		d.Cut(n)
		wantErr(t, "Save", stable.Save(d, next), api.ErrPower)
		d.Crash([]int{-1}) // all names, no bytes that are not synced
		wantFiles(t, fmt.Sprint("power for ", n), d, want)
	}
	d := newDisk(t, 1000)
	done(t, stable.Save(d, next))
	d.Crash(nil)
	wantFiles(t, "saved", d, fmt.Sprintf("vote=%x", voteBytes(next)))
}

// P603: a disk without room: the first error, and the elder Vote is there still.
func TestSaveFull(t *testing.T) {
	elder, next := stable.Vote{Term: 3, For: 2}, stable.Vote{Term: 4, For: 5}
	size := len(voteBytes(elder))
	d := newDisk(t, 2*size-1)
	done(t, stable.Save(d, elder))
	wantErr(t, "Save without room for bytes", stable.Save(d, next), api.ErrFull)
	wantFiles(t, "no room", d, fmt.Sprintf("vote=%x vote.tmp=", voteBytes(elder)))
	wantErr(t, "Save again", stable.Save(d, next), api.ErrFull)
	wantLoad(t, "no room", d, elder)
	d.Crash([]int{-1, -1, -1})
	wantLoad(t, "no room, crashed", d, elder)

	d = newDisk(t, 2*size)
	done(t, stable.Save(d, elder), stable.Save(d, next))
	wantLoad(t, "just room", d, next)
	// What is left of another Save does not stand in the way.
	lay(t, d, "vote.tmp", make([]byte, size))
	done(t, stable.Save(d, elder))
	wantLoad(t, "just room again", d, elder)
}

// P603: a disk without room for a name, unless vote.tmp is one of them.
func TestSaveManyFiles(t *testing.T) {
	elder, next := stable.Vote{Term: 3, For: 2}, stable.Vote{Term: 4, For: 5}
	d := newDisk(t, 1000)
	done(t, stable.Save(d, elder))
	for i := range api.MaxFiles - 1 {
		done(t, d.Create(fmt.Sprint("f", i)))
	}
	wantErr(t, "Save without room for a name", stable.Save(d, next), api.ErrFull)
	wantLoad(t, "no room", d, elder)
	done(t, d.Rename("f0", "vote.tmp"), stable.Save(d, next))
	wantLoad(t, "its own name", d, next)
}
