package snaps_test

import (
	"bytes"
	"encoding/binary"
	"fmt"
	"hash/crc32"
	"math"
	"math/rand"
	"reflect"
	"slices"
	"strings"
	"testing"

	"hustings/api"
	"hustings/snaps"
	"hustings/vdisk"
)

const (
	lastIndex = 1<<40 - 1
	mostData  = 60000
)

func newDisk(t *testing.T, quota int) *vdisk.Disk {
	t.Helper()
	d, e := vdisk.New(quota)
	if e != api.OK {
		t.Fatalf("New(%d): %d", quota, e)
	}
	return d
}

// done: all calls, made in a row, must have answered OK.
func done(t *testing.T, errs ...api.Errno) {
	t.Helper()
	for i, e := range errs {
		if e != api.OK {
			t.Fatalf("call %d: %d", i, e)
		}
	}
}

func wantErr(t *testing.T, what string, got, want api.Errno) {
	t.Helper()
	if got != want {
		t.Errorf("%s: %d, want %d", what, got, want)
	}
}

// num: a number's bytes, by another way than the program's.
func num(n int) []byte {
	var b [8]byte
	binary.LittleEndian.PutUint64(b[:], uint64(n))
	l := bytes.TrimRight(b[:], "\x00")
	return append([]byte{byte(len(l))}, l...)
}

// counted: bytes behind their number.
func counted(parts ...[]byte) []byte {
	b := bytes.Join(parts, nil)
	return append(num(len(b)), b...)
}

// framed: parts as a frame, by another way than the program's.
func framed(kind byte, parts ...[]byte) []byte {
	data := bytes.Join(parts, nil)
	body := append([]byte{kind}, data...)
	b := binary.LittleEndian.AppendUint32(nil, uint32(len(data)))
	b = binary.LittleEndian.AppendUint32(b, crc32.Checksum(body, crc32.MakeTable(crc32.Castagnoli)))
	return append(b, body...)
}

// list: servers as bytes, whether they may be or not.
func list(servers ...int) []byte {
	b := num(len(servers))
	for _, id := range servers {
		b = append(b, num(id)...)
	}
	return b
}

// snapBytes: a Snapshot's bytes, whether it may be or not.
func snapBytes(s snaps.Snapshot) []byte {
	return framed(5, num(s.Index), num(s.Term), counted(list(s.Servers...)), counted(s.Data))
}

// at: a Snapshot of that index.
func at(index int) snaps.Snapshot {
	return snaps.Snapshot{Index: index, Term: 2, Servers: []int{0, 3}, Data: []byte(fmt.Sprint("up to ", index))}
}

// with: at 5, but for what change does.
func with(change func(s *snaps.Snapshot)) snaps.Snapshot {
	s := at(5)
	change(&s)
	return s
}

// same: nil and empty lists are the same.
func same(a, b snaps.Snapshot) bool {
	return a.Index == b.Index && a.Term == b.Term && slices.Equal(a.Servers, b.Servers) && bytes.Equal(a.Data, b.Data)
}

// short: a Snapshot as a text that tells no long Data.
func short(s snaps.Snapshot) string {
	return fmt.Sprintf("{%d %d %v %.20q of %d}", s.Index, s.Term, s.Servers, s.Data, len(s.Data))
}

// right: Snapshots that may be, the edges among them.
func right() []snaps.Snapshot {
	var l []snaps.Snapshot
	for _, n := range []int{1, 2, 9, 10, 255, 256, 65535, 65536, 1<<39 - 1, 1 << 39, lastIndex - 1, lastIndex} {
		l = append(l, with(func(s *snaps.Snapshot) { s.Index = n }), with(func(s *snaps.Snapshot) { s.Term = n }))
	}
	for _, servers := range [][]int{{0}, {15}, {1, 2}, {0, 15}, {0, 1, 2, 3, 4, 5, 6}, {9, 10, 11, 12, 13, 14, 15}} {
		l = append(l, with(func(s *snaps.Snapshot) { s.Servers = servers }))
	}
	for _, size := range []int{0, 1, 255, 256, 257, 32768, mostData - 1, mostData} {
		l = append(l, with(func(s *snaps.Snapshot) { s.Data = bytes.Repeat([]byte{7}, size) }))
	}
	l = append(l, with(func(s *snaps.Snapshot) { s.Data = nil }))
	return append(l, snaps.Snapshot{Index: lastIndex, Term: api.MaxTerm - 1, Servers: []int{9, 10, 11, 12, 13, 14, 15}, Data: bytes.Repeat([]byte{255}, mostData)})
}

// wrong: Snapshots that may not be, each by one fault.
func wrong() []snaps.Snapshot {
	var l []snaps.Snapshot
	for _, n := range []int{0, -1, -5, math.MinInt, 1 << 40, 1<<40 + 1, 1<<48 - 1, 1 << 48, math.MaxInt} {
		l = append(l, with(func(s *snaps.Snapshot) { s.Index = n }), with(func(s *snaps.Snapshot) { s.Term = n }))
	}
	for _, servers := range [][]int{nil, {}, {-1}, {16}, {0, 16}, {-1, 0}, {1, 1}, {2, 1}, {0, 1, 2, 3, 4, 5, 6, 7}, {math.MinInt}, {math.MaxInt}, make([]int, 1000)} {
		l = append(l, with(func(s *snaps.Snapshot) { s.Servers = servers }))
	}
	for _, size := range []int{mostData + 1, 65536, 65537, api.MaxBytes, api.MaxBytes + 1} {
		l = append(l, with(func(s *snaps.Snapshot) { s.Data = make([]byte, size) }))
	}
	return append(l, snaps.Snapshot{})
}

// P702: bytes that are written out here.
func TestPutBytes(t *testing.T) {
	for _, c := range []struct {
		s    snaps.Snapshot
		want string
	}{
		{snaps.Snapshot{Index: 5, Term: 2, Servers: []int{0, 3}, Data: []byte("hi")}, "\x0f\x00\x00\x00\xf9\x78\xe8\x6a\x05\x01\x05\x01\x02\x01\x05\x01\x02\x00\x01\x03\x01\x02hi"},
		{snaps.Snapshot{Index: 300, Term: 1, Servers: []int{1}}, "\x0c\x00\x00\x00\xe5\xfd\x37\x93\x05\x02\x2c\x01\x01\x01\x01\x04\x01\x01\x01\x01\x00"},
	} {
		if b, e := snaps.Put(c.s); string(b) != c.want || e != api.OK {
			t.Errorf("Put(%v): %x, %d, want %x", c.s, b, e, c.want)
		}
	}
}

// P702: there and back, all that may be at the edges.
func TestThereAndBack(t *testing.T) {
	for _, s := range right() {
		b, e := snaps.Put(s)
		if e != api.OK || !bytes.Equal(b, snapBytes(s)) {
			t.Errorf("Put(%s): %.40x, %d, want %.40x", short(s), b, e, snapBytes(s))
		}
		if got, e := snaps.Get(b); !same(got, s) || e != api.OK {
			t.Errorf("Get: %s, %d, want %s", short(got), e, short(s))
		}
	}
}

// P702: what may not be is not put.
func TestPutRefuses(t *testing.T) {
	for _, s := range wrong() {
		if b, e := snaps.Put(s); len(b) != 0 || e != api.ErrArg {
			t.Errorf("Put(%s): %.40x, %d", short(s), b, e)
		}
	}
}

// notSnaps: bytes, each with one fault.
func notSnaps() [][]byte {
	good := snapBytes(at(300))
	two, three, servers, data := num(2), num(3), counted(list(0, 3)), counted([]byte("hi"))
	l := [][]byte{
		nil,
		{},
		{0},
		[]byte("x"),
		append(bytes.Clone(good), 0),
		append([]byte{0}, good...),
		append(bytes.Clone(good), good...),
		append(bytes.Clone(good), framed(5)...),
		append(framed(5), good...),
		append(framed(1), good...),
		good[4:],
		good[9:],
		framed(5),
		framed(5, two),
		framed(5, two, three),
		framed(5, two, three, servers),
		framed(5, two, three, servers, data, num(0)),
		framed(5, two, three, servers, data, data),
		framed(5, two, three, data, servers),
		framed(5, two, three, list(0, 3), data),                           // servers not as bytes
		framed(5, two, three, counted(), data),                            // no list at all
		framed(5, two, three, counted(list()), data),                      // nobody
		framed(5, two, three, counted(list(0, 3), []byte{0}), data),       // a rest behind the list
		framed(5, two, three, counted(list(0, 3)[:4]), data),              // a list torn off
		framed(5, two, three, counted(num(3), num(0), num(3)), data),      // one too few
		framed(5, two, three, counted(num(2), []byte{1, 0}, num(3))),      // a last byte that is 0
		framed(5, []byte{1, 0}, three, servers, data),                     // so, too
		framed(5, []byte{2, 2, 0}, three, servers, data),                  // so, too
		framed(5, two, []byte{2, 3, 0}, servers, data),                    // so, too
		framed(5, two, three, []byte{2, 5, 0, 1, 2, 0, 1, 3}, data),       // so, too
		framed(5, two, three, servers, []byte{2, 2, 0, 'h', 'i'}),         // so, too
		framed(5, two, three, servers, []byte{1, 3, 'h', 'i'}),            // too few bytes
		framed(5, two, three, servers, []byte{1, 1, 'h', 'i'}),            // too many
		framed(5, []byte{7, 1, 1, 1, 1, 1, 1, 1}, three, servers, data),   // a count above 6
		framed(5, two, three, servers, num(1<<48-1), []byte("hi")),        // more than there can be
		framed(5, two, three, servers, counted(make([]byte, mostData+1))), // more than may be
		framed(5, bytes.Repeat([]byte{0}, 65536)),
	}
	for kind := range 256 {
		if kind != 5 {
			l = append(l, framed(byte(kind), two, three, servers, data))
		}
	}
	for i := range good {
		l = append(l, good[:i])
		for turn := 1; turn < 256; turn++ {
			b := bytes.Clone(good)
			b[i] ^= byte(turn)
			l = append(l, b)
		}
	}
	return l
}

// zero: is nothing in it?
func zero(s snaps.Snapshot) bool {
	return same(s, snaps.Snapshot{})
}

func wantNoSnap(t *testing.T, b []byte) {
	t.Helper()
	if s, e := snaps.Get(b); !zero(s) || e != api.ErrForm {
		t.Errorf("Get(%.60x): %s, %d", b, short(s), e)
	}
}

// P702: bytes that are none are not got.
func TestGetRefuses(t *testing.T) {
	for _, b := range notSnaps() {
		wantNoSnap(t, b)
	}
	number := func(n int) bool { return n >= 0 && n < 1<<48 }
	for _, s := range wrong() {
		if number(s.Index) && number(s.Term) && !slices.ContainsFunc(s.Servers, func(id int) bool { return !number(id) }) {
			wantNoSnap(t, snapBytes(s))
		}
	}
}

// P702: of any bytes an error, or a Snapshot that is put as the same bytes; short data with a right sum, and all of it.
func TestGetAny(t *testing.T) {
	r := rand.New(rand.NewSource(1))
	found := 0
	for range 50000 {
		data := bytes.Clone(snapBytes(at(5))[9:])
		for range r.Intn(3) {
			data[r.Intn(len(data))] = byte(r.Intn(8))
		}
		data = data[:len(data)-r.Intn(2)*r.Intn(3)]
		b := framed(5, data)
		s, e := snaps.Get(b)
		if e != api.OK {
			wantNoSnap(t, b)
			continue
		}
		found++
		again, e := snaps.Put(s)
		if e != api.OK || !bytes.Equal(again, b) || !bytes.Equal(snapBytes(s), b) {
			t.Errorf("Get(%x): %s, put again: %x, %d", b, short(s), again, e)
		}
	}
	if found < 1000 {
		t.Error("only", found, "were Snapshots")
	}
}

// spoil: writes into a list and into all the room behind it.
func spoil(b []byte) {
	for i := range b[:cap(b)] {
		b[:cap(b)][i] ^= 0xa5
	}
}

func spoilServers(l []int) {
	for i := range l[:cap(l)] {
		l[:cap(l)][i] += 99
	}
}

// P701: pure functions: nothing handed in is changed, answers share nothing.
func TestMemory(t *testing.T) {
	servers, data := []int{0, 3, 7, 8}, []byte("up to 5 and room")
	s := snaps.Snapshot{Index: 5, Term: 2, Servers: servers[:2], Data: data[:7]}
	want := snapBytes(at(5))
	one, _ := snaps.Put(s)
	two, _ := snaps.Put(s)
	spoil(one)
	if !bytes.Equal(two, want) {
		t.Error("two answers of Put share memory")
	}
	if !slices.Equal(servers, []int{0, 3, 7, 8}) || string(data) != "up to 5 and room" {
		t.Error("Put changed what it was handed, or the room behind it")
	}
	in := append(bytes.Clone(want), "room"...)[:len(want)]
	got, _ := snaps.Get(in)
	other, _ := snaps.Get(in)
	spoil(got.Data)
	spoilServers(got.Servers)
	if string(in[:len(in)+4]) != string(want)+"room" || !same(other, at(5)) {
		t.Error("Get changed what it was handed, or two answers share memory")
	}
	spoil(in)
	if !same(other, at(5)) {
		t.Error("an answer of Get shares memory with what was handed in")
	}
}

// P701: nothing that was handed in is kept, nothing that is kept is handed out.
func TestDiskMemory(t *testing.T) {
	d := newDisk(t, 1000)
	s := at(5)
	done(t, snaps.Save(d, s))
	if !reflect.DeepEqual(s, at(5)) {
		t.Error("Save changed what it was handed")
	}
	spoil(s.Data)
	spoilServers(s.Servers)
	wantLoad(t, "behind a change of what was saved", d, at(5))
	got, _, _ := snaps.Load(d)
	spoil(got.Data)
	spoilServers(got.Servers)
	wantLoad(t, "behind a change of what was loaded", d, at(5))
}

func wantLoad(t *testing.T, what string, d *vdisk.Disk, want snaps.Snapshot) {
	t.Helper()
	if s, ok, e := snaps.Load(d); !same(s, want) || !ok || e != api.OK {
		t.Errorf("%s: Load: %s, %v, %d, want %s", what, short(s), ok, e, short(want))
	}
}

func wantNone(t *testing.T, what string, d *vdisk.Disk) {
	t.Helper()
	if s, ok, e := snaps.Load(d); !zero(s) || ok || e != api.OK {
		t.Errorf("%s: Load: %s, %v, %d, want none", what, short(s), ok, e)
	}
}

// files: of a disk, with their bytes.
func files(t *testing.T, d *vdisk.Disk) string {
	t.Helper()
	var l []string
	for _, name := range d.List() {
		b, e := d.Read(name)
		done(t, e)
		l = append(l, fmt.Sprintf("%s=%x", name, b))
	}
	return strings.Join(l, " ")
}

func wantFiles(t *testing.T, what string, d *vdisk.Disk, want string) {
	t.Helper()
	if got := files(t, d); got != want {
		t.Errorf("%s: files %.300q, want %.300q", what, got, want)
	}
}

func wantNames(t *testing.T, what string, d *vdisk.Disk, want ...string) {
	t.Helper()
	if got := d.List(); !slices.Equal(got, want) {
		t.Errorf("%s: names %q, want %q", what, got, want)
	}
}

// lay: a file of those bytes, which lasts.
func lay(t *testing.T, d *vdisk.Disk, name string, b []byte) {
	t.Helper()
	done(t, d.Create(name), d.Append(name, b), d.Sync(name), d.SyncDir())
}

// named: the name of a Snapshot's file, by another way than the program's.
func named(index int) string {
	return fmt.Sprintf("snap-%013d", index)
}
