package machine_test

import (
	"bytes"
	"slices"
	"testing"

	"hustings/api"
	"hustings/machine"
)

const (
	most    = 1<<40 - 1 // of indexes, sessions, seqs and records
	span    = 1 << 40   // so long that no session goes
	highest = 1<<63 - 1
	lowest  = -1 << 63
)

// num: numbers as bytes.
func num(l ...int) []byte {
	var b []byte
	for _, n := range l {
		var low []byte
		for ; n > 0; n /= 256 {
			low = append(low, byte(n%256))
		}
		b = append(append(b, byte(len(low))), low...)
	}
	return b
}

// text: bytes behind their number.
func text(l ...string) []byte {
	var b []byte
	for _, s := range l {
		b = append(append(b, num(len(s))...), s...)
	}
	return b
}

func join(parts ...[]byte) []byte {
	return bytes.Join(parts, nil)
}

// Commands, by their bytes alone.
func opens() []byte { return num(1) }

func puts(session, seq int, data string) []byte {
	return join(num(2, session, seq), text(data))
}

func trims(to int) []byte { return num(3, to) }

// long: a text of n bytes.
func long(n int) string {
	return string(bytes.Repeat([]byte{'x'}, n))
}

// wide: the bytes, with room behind them that others look at.
func wide(b []byte) []byte {
	return append(bytes.Clone(b), "room"...)[:len(b)]
}

// spoil: writes into a list and into all the room behind it.
func spoil(b []byte) {
	for i := range b[:cap(b)] {
		b[:cap(b)][i] ^= 0xa5
	}
}

func wantUntouched(t *testing.T, what string, b, before []byte) {
	t.Helper()
	if !bytes.Equal(b, before) || string(b[len(b):len(b)+4]) != "room" {
		t.Errorf("%s: what was handed in, or the room behind it, was changed", what)
	}
}

func newMachine(t *testing.T, span int) *machine.Machine {
	t.Helper()
	m, e := machine.New(span)
	if m == nil || e != api.OK {
		t.Fatal("New", span, e)
	}
	return m
}

// restored: of bytes that may be.
func restored(t *testing.T, span int, parts ...[]byte) *machine.Machine {
	t.Helper()
	m, e := machine.Restore(span, join(parts...))
	if m == nil || e != api.OK {
		t.Fatalf("Restore %v: %d", join(parts...), e)
	}
	return m
}

// applies: a command at the next index, whose Result is want.
func applies(t *testing.T, m *machine.Machine, command []byte, want machine.Result) {
	t.Helper()
	appliesAt(t, m, m.Applied()+1, command, want)
}

func appliesAt(t *testing.T, m *machine.Machine, index int, command []byte, want machine.Result) {
	t.Helper()
	if r, e := m.Apply(index, command); r != want || e != api.OK {
		t.Errorf("Apply %v at %d: %v, %d; want %v", command, index, r, e, want)
	}
	if m.Applied() != index {
		t.Errorf("behind an Apply at %d, Applied is %d", index, m.Applied())
	}
}

// Results.
func opened(session int) machine.Result { return machine.Result{Session: session} }
func number(n int) machine.Result       { return machine.Result{Number: n} }
func failed(e api.Errno) machine.Result { return machine.Result{E: e} }
func wantSaved(t *testing.T, what string, m *machine.Machine, parts ...[]byte) {
	t.Helper()
	if b := m.Save(); !bytes.Equal(b, join(parts...)) {
		t.Errorf("%s: saved is %v, want %v", what, b, join(parts...))
	}
}

func wantSessions(t *testing.T, what string, m *machine.Machine, want ...int) {
	t.Helper()
	if l := m.Sessions(); !slices.Equal(l, want) {
		t.Errorf("%s: sessions %v, want %v", what, l, want)
	}
}

// wantRead: those records, or that error and none.
func wantRead(t *testing.T, m *machine.Machine, from, most int, e api.Errno, want ...string) {
	t.Helper()
	l, got := m.Read(from, most)
	var texts []string
	for _, b := range l {
		texts = append(texts, string(b))
	}
	if got != e || !slices.Equal(texts, want) {
		t.Errorf("Read(%d, %d): %q, %d; want %q, %d", from, most, texts, got, want, e)
	}
}
