package wire_test

import (
	"bytes"
	"slices"
	"testing"

	"hustings/api"
	"hustings/wire"
)

// spoil: writes into a list and into all the room behind it.
func spoil(b []byte) {
	for i := range b[:cap(b)] {
		b[:cap(b)][i] ^= 0xa5
	}
}

// wide: the bytes, with room behind them that others look at.
func wide(b []byte) []byte {
	return append(bytes.Clone(b), "room"...)[:len(b)]
}

func wantUntouched(t *testing.T, what string, b, before []byte) {
	t.Helper()
	if !bytes.Equal(b, before) || string(b[len(b):len(b)+4]) != "room" {
		t.Errorf("%s: what was handed in, or the room behind it, was changed", what)
	}
}

// P301: puts change nothing, and their answers are new.
func TestPutsAreNew(t *testing.T) {
	data := []byte("hello")
	list := []int{1, 2, 3, 99}
	for what, put := range map[string]func(data []byte, list []int) []byte{
		"PutNumber":  func(d []byte, l []int) []byte { b, _ := wire.PutNumber(300); return b },
		"PutBytes":   func(d []byte, l []int) []byte { b, _ := wire.PutBytes(d); return b },
		"PutServers": func(d []byte, l []int) []byte { b, _ := wire.PutServers(l); return b },
		"Join one":   func(d []byte, l []int) []byte { return wire.Join(d) },
		"Join":       func(d []byte, l []int) []byte { return wire.Join(d, nil, d) },
		"PutEntry": func(d []byte, l []int) []byte {
			b, _ := wire.PutEntry(api.Entry{Term: 1, Index: 2, Kind: api.Command, Data: d})
			return b
		},
	} {
		in, ids := wide(data), slices.Clone(list)
		one, two := put(in, ids[:3]), put(in, ids[:3])
		want := bytes.Clone(two)
		if len(want) == 0 {
			t.Error(what, "answered nothing")
		}
		spoil(one)
		wantUntouched(t, what, in, data)
		if !slices.Equal(ids, list) {
			t.Error(what, "changed its list", ids)
		}
		spoil(in)
		ids[0] = 0
		if !bytes.Equal(two, want) {
			t.Error(what, "hangs on another answer, or on what was handed in")
		}
	}
}

// P301: Join changes neither its parts nor the list of them.
func TestJoinKeepsItsParts(t *testing.T) {
	a, b := wide([]byte("a")), wide([]byte("b"))
	parts := [][]byte{a, b, nil}
	wire.Join(parts[:2]...)
	wantUntouched(t, "Join", a, []byte("a"))
	wantUntouched(t, "Join", b, []byte("b"))
	if string(parts[0]) != "a" || string(parts[1]) != "b" || parts[2] != nil {
		t.Error("Join changed its list of parts")
	}
}

// P301: gets change nothing, and their answers are new.
func TestGetsAreNew(t *testing.T) {
	before := entry(1, 2, api.Command, []byte("hello"))
	in := wide(before)
	one, _ := wire.GetEntry(in)
	two, _ := wire.GetEntry(in)
	spoil(one.Data)
	wantUntouched(t, "GetEntry", in, before)
	spoil(in)
	if string(two.Data) != "hello" {
		t.Error("GetEntry hangs on another answer, or on its bytes")
	}

	before = servers(1, 2)
	in = wide(before)
	l, _ := wire.GetServers(in)
	m, _ := wire.GetServers(in)
	l[0] = 9
	wantUntouched(t, "GetServers", in, before)
	spoil(in)
	if !slices.Equal(m, []int{1, 2}) {
		t.Error("GetServers hangs on another answer, or on its bytes")
	}
}

// P301: a reader keeps nothing that was handed in, hands out nothing of its own, and two of the same bytes go on alone.
func TestReaderIsNew(t *testing.T) {
	before := wire.Join(counted([]byte("ab")), counted([]byte("ab")), number(300))
	in := wide(before)
	r, other := wire.New(in), wire.New(in)
	one := r.Bytes()
	spoil(one)
	wantUntouched(t, "New", in, before)
	spoil(in)
	two := r.Bytes()
	if string(two) != "ab" {
		t.Errorf("the second bytes are %q", two)
	}
	spoil(two)
	if n := r.Number(); n != 300 || r.End() != api.OK {
		t.Error("a reader hangs on what it was handed, or has handed out", n, r.End())
	}
	if b := other.Bytes(); string(b) != "ab" || other.Left() != 7 {
		t.Error("a reader hangs on another one", b, other.Left())
	}
}
