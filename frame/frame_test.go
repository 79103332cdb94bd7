package frame_test

import (
	"bytes"
	"encoding/binary"
	"hash/crc32"
	"math"
	"math/rand"
	"slices"
	"testing"

	"hustings/api"
	"hustings/frame"
)

const most = 65536

// bitByBit: the sum as the document's words tell it, one bit after the other.
func bitByBit(b []byte) uint32 {
	state := uint32(math.MaxUint32)
	for _, x := range b {
		for bit := range 8 {
			out := state&1 != uint32(x>>bit&1)
			state >>= 1
			if out {
				state ^= 0x82f63b78
			}
		}
	}
	return ^state
}

// written: the frame as the document's words tell it.
func written(kind byte, data []byte) []byte {
	behind := append([]byte{kind}, data...)
	b := binary.LittleEndian.AppendUint32(nil, uint32(len(data)))
	b = binary.LittleEndian.AppendUint32(b, bitByBit(behind))
	return append(b, behind...)
}

func put(t *testing.T, kind int, data []byte) []byte {
	t.Helper()
	b, e := frame.Put(kind, data)
	if e != api.OK {
		t.Fatalf("Put(%d, %d bytes): %d", kind, len(data), e)
	}
	return b
}

func sameFrames(a, b []frame.Frame) bool {
	return slices.EqualFunc(a, b, func(x, y frame.Frame) bool {
		return x.Kind == y.Kind && bytes.Equal(x.Data, y.Data)
	})
}

func wantScan(t *testing.T, what string, b []byte, want []frame.Frame, wantEnd int, wantWhole bool) {
	t.Helper()
	before := bytes.Clone(b)
	l, end, whole := frame.Scan(b)
	if !sameFrames(l, want) || end != wantEnd || whole != wantWhole {
		t.Errorf("%s: %d frames, end %d, whole %v; want %d, %d, %v", what, len(l), end, whole, len(want), wantEnd, wantWhole)
	}
	if !bytes.Equal(b, before) {
		t.Errorf("%s: Scan changed its bytes", what)
	}
}

// row: frames, their bytes one behind the other, and where each of them ends.
type row struct {
	frames []frame.Frame
	bytes  []byte
	ends   []int
}

func (r *row) add(t *testing.T, kind int, data []byte) {
	t.Helper()
	r.frames = append(r.frames, frame.Frame{Kind: kind, Data: data})
	r.bytes = append(r.bytes, put(t, kind, data)...)
	r.ends = append(r.ends, len(r.bytes))
}

// ahead: how many frames end at n or ahead of it, and where the last of them ends.
func (r *row) ahead(n int) (count, end int) {
	for _, e := range r.ends {
		if e <= n {
			count, end = count+1, e
		}
	}
	return count, end
}

func someRow(t *testing.T) *row {
	t.Helper()
	r := &row{}
	r.add(t, 7, []byte("xyz"))
	r.add(t, 0, nil)
	r.add(t, 255, bytes.Repeat([]byte{0}, 20))
	r.add(t, 1, bytes.Repeat([]byte{255}, 300))
	r.add(t, 2, put(t, 3, []byte("a frame within a frame")))
	r.add(t, 9, []byte{1})
	return r
}

// P202: the sum is CRC-32C.
func TestCrc(t *testing.T) {
	for _, c := range []struct {
		text string
		want uint32
	}{
		{"", 0},
		{"a", 0xc1d04330},
		{"123456789", 0xe3069283},
		{string(make([]byte, 32)), 0x8a9136aa},
		{string(bytes.Repeat([]byte{255}, 32)), 0x62a8ab43},
	} {
		if got := frame.Crc([]byte(c.text)); got != c.want {
			t.Errorf("Crc(%q): %#x, want %#x", c.text, got, c.want)
		}
	}
	if got := frame.Crc(nil); got != 0 {
		t.Errorf("Crc(nil): %#x", got)
	}
}

func TestCrcOfEachByteAndOfManyLengths(t *testing.T) {
	table := crc32.MakeTable(crc32.Castagnoli)
	for x := range 256 {
		b := []byte{byte(x)}
		if got := frame.Crc(b); got != bitByBit(b) {
			t.Errorf("Crc of the byte %d: %#x, want %#x", x, got, bitByBit(b))
		}
	}
	r := rand.New(rand.NewSource(1))
	for n := range 600 {
		b := make([]byte, n)
		r.Read(b)
		want := crc32.Checksum(b, table)
		if got := frame.Crc(b); got != want || got != bitByBit(b) {
			t.Fatalf("Crc of %d bytes: %#x, want %#x", n, got, want)
		}
	}
}

// P202: the document's example, and frames written out by hand.
func TestPutExamples(t *testing.T) {
	one := put(t, 1, nil)
	if len(one) != 9 || !bytes.Equal(one[:4], make([]byte, 4)) || one[8] != 1 {
		t.Errorf("Put(1, nothing): %v", one)
	}
	if binary.LittleEndian.Uint32(one[4:]) != bitByBit([]byte{1}) {
		t.Errorf("the sum in Put(1, nothing): %v", one[4:8])
	}
	if !bytes.Equal(put(t, 1, []byte{}), one) {
		t.Error("an empty list is another one than nil")
	}
	// The sum is that of kind and data together, here of the nine digits.
	want := []byte{8, 0, 0, 0, 0x83, 0x92, 0x06, 0xe3, '1', '2', '3', '4', '5', '6', '7', '8', '9'}
	if got := put(t, '1', []byte("23456789")); !bytes.Equal(got, want) {
		t.Errorf("Put('1', 23456789): %v, want %v", got, want)
	}
}

func TestPutAsWritten(t *testing.T) {
	for kind := range 256 {
		data := bytes.Repeat([]byte{byte(kind)}, kind)
		if got := put(t, kind, data); !bytes.Equal(got, written(byte(kind), data)) {
			t.Fatalf("Put(%d, %d bytes): %v", kind, kind, got)
		}
	}
	for _, n := range []int{255, 256, 257, 65535, 65536} {
		data := bytes.Repeat([]byte{5}, n)
		if got := put(t, 4, data); !bytes.Equal(got, written(4, data)) {
			t.Errorf("Put(4, %d bytes) is not as written: begins with %v", n, got[:9])
		}
	}
}

// P202: what Put refuses; of two errors ErrArg is named first.
func TestPutRefuses(t *testing.T) {
	tooMuch := make([]byte, most+1)
	for _, c := range []struct {
		kind int
		data []byte
		want api.Errno
	}{
		{-1, nil, api.ErrArg},
		{256, nil, api.ErrArg},
		{257, []byte("x"), api.ErrArg},
		{math.MinInt, nil, api.ErrArg},
		{math.MaxInt, nil, api.ErrArg},
		{-1, tooMuch, api.ErrArg},
		{256, tooMuch, api.ErrArg},
		{0, tooMuch, api.ErrSize},
		{255, tooMuch, api.ErrSize},
		{1, make([]byte, 1<<20), api.ErrSize},
	} {
		if b, e := frame.Put(c.kind, c.data); e != c.want || len(b) != 0 {
			t.Errorf("Put(%d, %d bytes): %d bytes, %d; want none, %d", c.kind, len(c.data), len(b), e, c.want)
		}
	}
}

// P202: Size, at its edges and held against Put.
func TestSize(t *testing.T) {
	for _, c := range []struct{ n, want int }{
		{math.MinInt, 0}, {-10, 0}, {-9, 0}, {-1, 0},
		{0, 9}, {1, 10}, {1024, 1033}, {most - 1, most + 8}, {most, most + 9},
		{most + 1, 0}, {1 << 32, 0}, {1<<32 + 5, 0}, {math.MaxInt - 8, 0}, {math.MaxInt, 0},
	} {
		if got := frame.Size(c.n); got != c.want {
			t.Errorf("Size(%d): %d, want %d", c.n, got, c.want)
		}
	}
	for _, n := range []int{0, 1, 2, 100, 1024, most} {
		if b := put(t, 3, make([]byte, n)); len(b) != frame.Size(n) {
			t.Errorf("Size(%d): %d, but Put makes %d", n, frame.Size(n), len(b))
		}
	}
}

// P203: nothing is whole.
func TestScanOfNothing(t *testing.T) {
	wantScan(t, "nil", nil, nil, 0, true)
	wantScan(t, "empty", []byte{}, nil, 0, true)
}

// P203: places at which no frame stands, at the beginning and behind a frame.
func TestScanWhereNoFrameStands(t *testing.T) {
	good := written(6, []byte("good"))
	ahead := []frame.Frame{{Kind: 6, Data: []byte("good")}}
	otherSum := written(1, []byte("abc"))
	otherSum[4]++
	// The sum covers kind and data, not the length: a frame whose sum is that of the data alone is none.
	dataSum := written(1, []byte("abc"))
	binary.LittleEndian.PutUint32(dataSum[4:], bitByBit([]byte("abc")))
	highFirst := written(1, []byte("abc"))
	binary.BigEndian.PutUint32(highFirst[4:], bitByBit(highFirst[8:]))
	for _, c := range []struct {
		what string
		b    []byte
	}{
		{"one byte", []byte{0}},
		{"eight bytes, whose length is 0", make([]byte, 8)},
		{"nine bytes of 0", make([]byte, 9)},
		{"many bytes of 0", make([]byte, 100)},
		{"bytes of 255", bytes.Repeat([]byte{255}, 100)},
		{"a length past the end", written(1, []byte("abc"))[:11]},
		{"another sum", otherSum},
		{"the sum of the data alone", dataSum},
		{"a sum with the highest byte first", highFirst},
		{"a length of 65537, with its bytes", written(1, make([]byte, most+1))},
		{"a length of 2^17, with its bytes", written(1, make([]byte, 1<<17))},
		{"the highest length", append([]byte{255, 255, 255, 255}, written(1, nil)[4:]...)},
		{"a length of 2^31", append([]byte{0, 0, 0, 128}, written(1, nil)[4:]...)},
	} {
		wantScan(t, c.what, c.b, nil, 0, false)
		behind := append(bytes.Clone(good), c.b...)
		wantScan(t, c.what+", behind a frame", behind, ahead, len(good), false)
		// What stands behind that place is not looked for, even if it is a frame.
		if c.what != "a length past the end" {
			wantScan(t, c.what+", between frames", append(behind, good...), ahead, len(good), false)
		}
	}
}

// P203: the longest frame that may be is told, and one by one the bytes that it lacks count.
func TestScanOfTheLongest(t *testing.T) {
	data := bytes.Repeat([]byte("hustings"), most/8)
	b := put(t, 200, data)
	one := []frame.Frame{{Kind: 200, Data: data}}
	wantScan(t, "the longest", b, one, most+9, true)
	wantScan(t, "the longest, without its last byte", b[:most+8], nil, 0, false)
	wantScan(t, "the longest, and a byte", append(bytes.Clone(b), 0), one, most+9, false)
	wantScan(t, "the longest, twice", append(bytes.Clone(b), b...), append(one, one...), 2*(most+9), true)
}

// P204: there and back, for each kind, for many lengths, for rows of all sizes.
func TestThereAndBack(t *testing.T) {
	r := someRow(t)
	for kind := range 256 {
		r.add(t, kind, bytes.Repeat([]byte{byte(kind)}, kind%40))
	}
	wantScan(t, "a row", r.bytes, r.frames, len(r.bytes), true)

	random := rand.New(rand.NewSource(2))
	for n := range 100 {
		r := &row{}
		for range n % 12 {
			data := make([]byte, random.Intn(1<<random.Intn(13)))
			random.Read(data)
			r.add(t, random.Intn(256), data)
		}
		wantScan(t, "a random row", r.bytes, r.frames, len(r.bytes), true)
	}
}

// P205: cut off anywhere.
func TestTorn(t *testing.T) {
	r := someRow(t)
	for n := range len(r.bytes) + 1 {
		count, end := r.ahead(n)
		wantScan(t, "torn", r.bytes[:n], r.frames[:count], end, end == n)
	}
}

// P206: every other value of each byte of each frame's sum, kind and data.
func TestRot(t *testing.T) {
	r := someRow(t)
	begin := 0
	for i, end := range r.ends {
		for at := begin + 4; at < end; at++ {
			for x := 1; x < 256; x++ {
				b := bytes.Clone(r.bytes)
				b[at] ^= byte(x)
				l, stop, whole := frame.Scan(b)
				if len(l) != i || !sameFrames(l, r.frames[:i]) || stop != begin || whole {
					t.Fatalf("byte %d turned by %d: %d frames, end %d, whole %v; want %d, %d, false", at, x, len(l), stop, whole, i, begin)
				}
			}
		}
		begin = end
	}
}

// P9: whatever the bytes are, what Scan tells is written as the same bytes.
func TestScanOfAnyBytes(t *testing.T) {
	random := rand.New(rand.NewSource(3))
	row := someRow(t).bytes
	for range 3000 {
		b := bytes.Clone(row[:random.Intn(len(row)+1)])
		for range random.Intn(3) {
			if len(b) > 0 {
				b[random.Intn(len(b))] = byte(random.Intn(256))
			}
		}
		l, end, whole := frame.Scan(b)
		var again []byte
		for _, f := range l {
			again = append(again, put(t, f.Kind, f.Data)...)
		}
		if end != len(again) || !bytes.Equal(again, b[:end]) || whole != (end == len(b)) {
			t.Fatalf("%v: %v, %d, %v", b, l, end, whole)
		}
	}
}

// spoil: writes into a list and into all the room behind it.
func spoil(b []byte) {
	for i := range b[:cap(b)] {
		b[:cap(b)][i] ^= 0xa5
	}
}

// P201: nothing that is handed in is changed, and answers share nothing, not even the room behind them.
func TestPutIsPure(t *testing.T) {
	room := []byte("xyz and room")
	data := room[:3]
	a, b := put(t, 7, data), put(t, 7, data)
	frame.Crc(data)
	if string(room) != "xyz and room" {
		t.Errorf("the data, or the room behind it, is now %q", room)
	}
	want := bytes.Clone(b)
	spoil(a)
	spoil(room)
	if !bytes.Equal(b, want) {
		t.Error("an answer of Put hangs on another one, or on its data")
	}
}

func TestScanIsPure(t *testing.T) {
	r := someRow(t)
	wide := append(bytes.Clone(r.bytes), "room"...)
	b := wide[:len(r.bytes)]
	one, _, _ := frame.Scan(b)
	two, _, _ := frame.Scan(b)
	for i := range one {
		spoil(one[i].Data)
		one[i].Kind = -1
		for j := range one[:i] {
			if want := bytes.Clone(r.frames[j].Data); len(want) > 0 {
				spoil(want)
				if !bytes.Equal(one[j].Data, want) {
					t.Errorf("the data of frames %d and %d hang together", j, i)
				}
			}
		}
	}
	if !bytes.Equal(b, r.bytes) || string(wide[len(b):]) != "room" {
		t.Error("an answer of Scan shares memory with its bytes")
	}
	spoil(wide)
	if !sameFrames(two, r.frames) {
		t.Error("an answer of Scan hangs on another one, or on its bytes")
	}
}
