package wire_test

import (
	"bytes"
	"math/rand"
	"testing"

	"hustings/api"
	"hustings/wire"
)

func wantState(t *testing.T, what string, r *wire.Reader, left int, err, end api.Errno) {
	t.Helper()
	if r.Left() != left || r.Err() != err || r.End() != end {
		t.Errorf("%s: left %d, err %d, end %d; want %d, %d, %d", what, r.Left(), r.Err(), r.End(), left, err, end)
	}
}

// wantStuck: behind an error nothing is read, and nothing changes.
func wantStuck(t *testing.T, what string, r *wire.Reader, left int, err api.Errno) {
	t.Helper()
	for range 2 {
		wantState(t, what, r, left, err, err)
		if n := r.Number(); n != 0 {
			t.Errorf("%s: then the number %d", what, n)
		}
		if b := r.Bytes(); len(b) != 0 {
			t.Errorf("%s: then the bytes %v", what, b)
		}
	}
}

// P301: a reader that is nil, or that New did not make.
func TestUnmadeReader(t *testing.T) {
	wantStuck(t, "nil", nil, 0, api.ErrArg)
	wantStuck(t, "zero", &wire.Reader{}, 0, api.ErrArg)
	wantStuck(t, "new", new(wire.Reader), 0, api.ErrArg)
}

// P303: at the beginning, without an error; of nothing, all is read.
func TestNew(t *testing.T) {
	wantState(t, "nil", wire.New(nil), 0, api.OK, api.OK)
	wantState(t, "empty", wire.New([]byte{}), 0, api.OK, api.OK)
	wantState(t, "some", wire.New([]byte{7, 7, 7}), 3, api.OK, api.ErrForm)
}

// P303: a call that fails, alone and behind others: the error, and what is left.
func TestReaderErrors(t *testing.T) {
	const asNumber, asBytes = false, true
	for _, c := range []struct {
		what  string
		bytes bool
		b     []byte
		want  api.Errno
	}{
		{"no number", asNumber, nil, api.ErrEnd},
		{"a count of 1 alone", asNumber, []byte{1}, api.ErrEnd},
		{"a count of 2, one byte", asNumber, []byte{2, 1}, api.ErrEnd},
		{"a count of 2, one byte that is 0", asNumber, []byte{2, 0}, api.ErrEnd},
		{"a count of 6, five bytes", asNumber, []byte{6, 1, 1, 1, 1, 1}, api.ErrEnd},
		{"a count of 7 alone", asNumber, []byte{7}, api.ErrForm},
		{"a count of 7, all there", asNumber, []byte{7, 1, 1, 1, 1, 1, 1, 1}, api.ErrForm},
		{"a count of 255 alone", asNumber, []byte{255}, api.ErrForm},
		{"a count of 128", asNumber, []byte{128, 1}, api.ErrForm},
		{"0 with a byte", asNumber, []byte{1, 0}, api.ErrForm},
		{"a last byte that is 0", asNumber, []byte{2, 5, 0}, api.ErrForm},
		{"a last byte that is 0, more behind", asNumber, []byte{2, 5, 0, 1}, api.ErrForm},
		{"the last of six that is 0", asNumber, []byte{6, 1, 1, 1, 1, 1, 0}, api.ErrForm},

		{"no bytes", asBytes, nil, api.ErrEnd},
		{"a length cut off", asBytes, []byte{2, 1}, api.ErrEnd},
		{"a length of 7 bytes", asBytes, []byte{7}, api.ErrForm},
		{"a length with a last byte that is 0", asBytes, []byte{2, 1, 0, 5}, api.ErrForm},
		{"a length of 0 with a byte", asBytes, []byte{1, 0}, api.ErrForm},
		{"one byte too few", asBytes, []byte{1, 3, 'a', 'b'}, api.ErrEnd},
		{"no byte of one", asBytes, []byte{1, 1}, api.ErrEnd},
		{"as many as may be, none there", asBytes, number(api.MaxBytes), api.ErrEnd},
		{"as many as may be, all but one there", asBytes, append(number(api.MaxBytes), make([]byte, api.MaxBytes-1)...), api.ErrEnd},
		{"more than may be, none there", asBytes, number(api.MaxBytes + 1), api.ErrForm},
		{"more than may be, all there", asBytes, append(number(api.MaxBytes+1), make([]byte, api.MaxBytes+1)...), api.ErrForm},
		{"the highest length", asBytes, number(mostNumber), api.ErrForm},
	} {
		for _, ahead := range [][]byte{nil, {0}, {1, 9}, {6, 1, 2, 3, 4, 5, 6}} {
			r := wire.New(append(bytes.Clone(ahead), c.b...))
			if len(ahead) > 0 {
				r.Number()
				r.Err()
			}
			if c.bytes {
				if b := r.Bytes(); len(b) != 0 {
					t.Errorf("%s: %d bytes", c.what, len(b))
				}
			} else if n := r.Number(); n != 0 {
				t.Errorf("%s: the number %d", c.what, n)
			}
			wantStuck(t, c.what, r, len(c.b), c.want)
		}
	}
}

// P303: the first error stays, though another call would find another one, or none, at the same place.
func TestFirstErrorStays(t *testing.T) {
	// As bytes too few are there, as a number it would be 3.
	r := wire.New([]byte{1, 3, 'a'})
	r.Bytes()
	wantStuck(t, "bytes ahead of a number", r, 3, api.ErrEnd)
	// As a number there are too few bytes; then nothing more.
	r = wire.New([]byte{1, 5, 2, 1})
	if n := r.Number(); n != 5 {
		t.Error(n)
	}
	wantState(t, "one of two", r, 2, api.OK, api.ErrForm)
	r.Number()
	wantStuck(t, "one of two", r, 2, api.ErrEnd)
}

// P303: End and Err look: they leave no error, and the reading goes on.
func TestEndIsALook(t *testing.T) {
	r := wire.New([]byte{1, 5, 1, 2, 'a', 'b', 0})
	wantState(t, "at first", r, 7, api.OK, api.ErrForm)
	if n := r.Number(); n != 5 {
		t.Error(n)
	}
	wantState(t, "behind a number", r, 5, api.OK, api.ErrForm)
	if b := r.Bytes(); string(b) != "ab" {
		t.Error(b)
	}
	wantState(t, "behind bytes", r, 1, api.OK, api.ErrForm)
	if n := r.Number(); n != 0 {
		t.Error(n)
	}
	wantState(t, "behind all", r, 0, api.OK, api.OK)
	r.Number()
	wantStuck(t, "past all", r, 0, api.ErrEnd)
}

// P303: bytes up to the most that may be.
func TestBytesOfAllLengths(t *testing.T) {
	for _, n := range []int{0, 1, 255, 256, 65535, 65536, api.MaxBytes - 1, api.MaxBytes} {
		want := bytes.Repeat([]byte("x"), n)
		r := wire.New(counted(want))
		if b := r.Bytes(); !bytes.Equal(b, want) {
			t.Errorf("%d bytes: %d, %d", n, len(b), r.Err())
		}
		wantState(t, "all bytes", r, 0, api.OK, api.OK)
	}
}

// P305, P306: each number at an edge, alone and in one row with bytes between.
func TestThereAndBack(t *testing.T) {
	var all []byte
	for i, n := range edges() {
		b, e := wire.PutNumber(n)
		wantBytes(t, "PutNumber", b, e, number(n))
		r := wire.New(b)
		if got := r.Number(); got != n || r.End() != api.OK {
			t.Errorf("%d: read as %d, %d", n, got, r.End())
		}
		c, e := wire.PutBytes(all[:min(len(all), i)])
		wantBytes(t, "PutBytes", c, e, counted(all[:min(len(all), i)]))
		all = wire.Join(all, b, c)
	}
	r := wire.New(all)
	left := len(all)
	for i, n := range edges() {
		begin := len(all) - left
		if got := r.Number(); got != n {
			t.Fatalf("%d: read as %d, %d", n, got, r.Err())
		}
		left -= len(number(n))
		wantState(t, "behind a number", r, left, api.OK, api.ErrForm)
		want := all[:min(begin, i)]
		if got := r.Bytes(); !bytes.Equal(got, want) {
			t.Fatalf("%v: read as %v, %d", want, got, r.Err())
		}
		left -= len(counted(want))
	}
	wantState(t, "behind all", r, 0, api.OK, api.OK)
}

// P306: random rows of numbers and bytes, read in the order in which they were put.
func TestRandomRows(t *testing.T) {
	random := rand.New(rand.NewSource(2))
	for range 500 {
		var items []any
		var parts [][]byte
		for range random.Intn(30) {
			if random.Intn(2) == 0 {
				n := random.Intn(1 << random.Intn(49))
				b, _ := wire.PutNumber(n)
				items, parts = append(items, n), append(parts, b)
			} else {
				data := make([]byte, random.Intn(1<<random.Intn(11)))
				random.Read(data)
				b, _ := wire.PutBytes(data)
				items, parts = append(items, data), append(parts, b)
			}
		}
		r := wire.New(wire.Join(parts...))
		for _, x := range items {
			switch x := x.(type) {
			case int:
				if got := r.Number(); got != x {
					t.Fatalf("%d: read as %d", x, got)
				}
			case []byte:
				if got := r.Bytes(); !bytes.Equal(got, x) {
					t.Fatalf("%v: read as %v", x, got)
				}
			}
		}
		wantState(t, "a row", r, 0, api.OK, api.OK)
	}
}

// modelNumber: the number at b's beginning by the document's words, how many bytes it takes, and the error.
func modelNumber(b []byte) (n, size int, e api.Errno) {
	switch {
	case len(b) > 0 && b[0] > 6:
		return 0, 0, api.ErrForm
	case len(b) == 0 || len(b)-1 < int(b[0]):
		return 0, 0, api.ErrEnd
	case b[0] > 0 && b[b[0]] == 0:
		return 0, 0, api.ErrForm
	}
	for i, x := range b[1 : 1+b[0]] {
		n += int(x) << (8 * i)
	}
	return n, 1 + int(b[0]), api.OK
}

func modelBytes(b []byte) (data []byte, size int, e api.Errno) {
	n, size, e := modelNumber(b)
	switch {
	case e != api.OK:
		return nil, 0, e
	case n > api.MaxBytes:
		return nil, 0, api.ErrForm
	case n > len(b)-size:
		return nil, 0, api.ErrEnd
	}
	return b[size : size+n], size + n, api.OK
}

// P303, P9: all short rows of telling bytes, read in all turns, held against the model; what is read is put the same.
func TestReaderAgainstModel(t *testing.T) {
	telling := []byte{0, 1, 2, 3, 6, 7, 17, 255}
	var try func(b []byte, more int)
	try = func(b []byte, more int) {
		for turns := range 4 {
			readBoth(t, b, turns)
		}
		if more > 0 {
			for _, x := range telling {
				try(append(bytes.Clone(b), x), more-1)
			}
		}
	}
	try(nil, 5)
	random := rand.New(rand.NewSource(3))
	for range 20000 {
		b := make([]byte, random.Intn(40))
		for i := range b {
			b[i] = byte(random.Intn(1 << random.Intn(9)))
		}
		readBoth(t, b, random.Intn(1<<30))
	}
}

// readBoth: reads b to its end or to an error, a number or bytes by the bits of turns.
func readBoth(t *testing.T, b []byte, turns int) {
	t.Helper()
	r := wire.New(b)
	rest := b
	for i := 0; len(rest) > 0; i++ {
		var size int
		var want, e api.Errno
		var again []byte
		if turns>>(i%30)&1 == 0 {
			var n int
			n, size, want = modelNumber(rest)
			got := r.Number()
			if got != n {
				t.Fatalf("%v: the number %d, want %d", b, got, n)
			}
			again, e = wire.PutNumber(got)
		} else {
			var data []byte
			data, size, want = modelBytes(rest)
			got := r.Bytes()
			if !bytes.Equal(got, data) {
				t.Fatalf("%v: the bytes %v, want %v", b, got, data)
			}
			again, e = wire.PutBytes(got)
		}
		if want != api.OK {
			wantStuck(t, "held against the model", r, len(rest), want)
			return
		}
		if e != api.OK || !bytes.Equal(again, rest[:size]) {
			t.Fatalf("%v: put again as %v, %d, want %v", b, again, e, rest[:size])
		}
		rest = rest[size:]
		if r.Left() != len(rest) || r.Err() != api.OK {
			t.Fatalf("%v: left %d, err %d, want %d", b, r.Left(), r.Err(), len(rest))
		}
	}
	wantState(t, "all of it", r, 0, api.OK, api.OK)
}
