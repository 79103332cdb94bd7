package machine_test

import (
	"bytes"
	"testing"

	"hustings/api"
	"hustings/machine"
)

// P802: commands as bytes.
func TestCommands(t *testing.T) {
	if b := machine.Open(); !bytes.Equal(b, []byte{1, 1}) {
		t.Error("Open", b)
	}
	if b, e := machine.Put(1, 300, []byte("hi")); !bytes.Equal(b, []byte{1, 2, 1, 1, 2, 44, 1, 1, 2, 'h', 'i'}) || e != api.OK {
		t.Error("Put", b, e)
	}
	if b, e := machine.Trim(0); !bytes.Equal(b, []byte{1, 3, 0}) || e != api.OK {
		t.Error("Trim", b, e)
	}
}

// P802: a put, at the edges and beyond them; numbers are asked ahead of the data.
func TestPut(t *testing.T) {
	for _, c := range []struct {
		session, seq int
		data         string
		want         api.Errno
	}{
		{1, 1, "", api.OK},
		{1, 2, "x", api.OK},
		{most, 1, "ab", api.OK},
		{1, most, "ab", api.OK},
		{most, most, long(1024), api.OK},
		{7, 8, long(1023), api.OK},
		{0, 1, "x", api.ErrArg},
		{1, 0, "x", api.ErrArg},
		{-1, 1, "x", api.ErrArg},
		{1, -1, "x", api.ErrArg},
		{most + 1, 1, "x", api.ErrArg},
		{1, most + 1, "x", api.ErrArg},
		{highest, 1, "x", api.ErrArg},
		{1, highest, "x", api.ErrArg},
		{lowest, 1, "x", api.ErrArg},
		{1, lowest, "x", api.ErrArg},
		{1, 1, long(1025), api.ErrSize},
		{1, 1, long(1 << 20), api.ErrSize},
		{1, 1, long(1<<20 + 1), api.ErrSize},
		{0, 1, long(1025), api.ErrArg},
		{1, most + 1, long(1025), api.ErrArg},
	} {
		b, e := machine.Put(c.session, c.seq, []byte(c.data))
		want := puts(max(c.session, 0), max(c.seq, 0), c.data)
		if c.want != api.OK {
			want = nil
		}
		if !bytes.Equal(b, want) || e != c.want {
			t.Errorf("Put(%d, %d, %d bytes): %d bytes, %d; want %d", c.session, c.seq, len(c.data), len(b), e, c.want)
		}
	}
	none, _ := machine.Put(1, 1, nil)
	if empty, _ := machine.Put(1, 1, []byte{}); !bytes.Equal(none, empty) || len(none) == 0 {
		t.Error("Put of nil and of nothing", none, empty)
	}
}

// P802: a trim, at the edges and beyond them.
func TestTrim(t *testing.T) {
	for _, to := range []int{0, 1, 255, 256, most - 1, most} {
		if b, e := machine.Trim(to); !bytes.Equal(b, trims(to)) || e != api.OK {
			t.Error("Trim", to, b, e)
		}
	}
	for _, to := range []int{-1, lowest, most + 1, highest} {
		if b, e := machine.Trim(to); len(b) != 0 || e != api.ErrArg {
			t.Error("Trim", to, b, e)
		}
	}
}

// notCommands: bytes that are none, by what is wrong.
func notCommands() map[string][]byte {
	return map[string][]byte{
		"nothing":                       nil,
		"empty":                         {},
		"a text":                        []byte("?"),
		"a number cut off":              {1},
		"a number of seven bytes":       {7, 1, 1, 1, 1, 1, 1, 1},
		"the kind 0":                    num(0),
		"the kind 4":                    num(4),
		"the kind 4, as a put":          join(num(4, 1, 1), text("x")),
		"the kind 256 + 1":              num(257),
		"the highest kind":              num(1<<48 - 1),
		"a kind that ends with 0":       {2, 1, 0},
		"open, a byte behind":           {1, 1, 0},
		"open twice":                    num(1, 1),
		"put alone":                     num(2),
		"put, a session alone":          num(2, 1),
		"put without data":              num(2, 1, 9),
		"put, data cut off":             puts(1, 9, "xyz")[:8],
		"put, a byte behind":            append(puts(1, 9, "x"), 0),
		"put to session 0":              puts(0, 9, "x"),
		"put, seq 0":                    puts(1, 0, "x"),
		"put to session 2^40":           puts(1<<40, 9, "x"),
		"put, seq 2^40":                 puts(1, 1<<40, "x"),
		"put to session 2^40 + 1":       puts(1<<40+1, 9, "x"),
		"put, the highest seq":          puts(1, 1<<48-1, "x"),
		"put, 1025 bytes":               puts(1, 9, long(1025)),
		"put, 2^20 bytes":               puts(1, 9, long(1<<20)),
		"put, 2^20 + 1 bytes":           puts(1, 9, long(1<<20+1)),
		"put, a session that ends on 0": join(num(2), []byte{2, 1, 0}, num(9), text("x")),
		"put, a length that ends on 0":  join(num(2, 1, 9), []byte{2, 1, 0}, []byte("x")),
		"trim alone":                    num(3),
		"trim to 2^40":                  trims(1 << 40),
		"trim to the highest":           trims(1<<48 - 1),
		"trim, a byte behind":           append(trims(1), 0),
		"trim to two":                   num(3, 1, 1),
		"trim to 1 that ends on 0":      {1, 3, 2, 1, 0},
	}
}

// P803: bytes that are no command: ErrForm in the Result, and only the index is applied.
func TestNoCommands(t *testing.T) {
	for what, b := range notCommands() {
		m := restored(t, span, num(5, 3, 6, 1, 1, 8, 4, 3), text("a", "b", "c"))
		if r, e := m.Apply(6, b); r != failed(api.ErrForm) || e != api.OK {
			t.Errorf("%s: %v, %d", what, r, e)
		}
		wantSaved(t, what, m, num(6, 3, 6, 1, 1, 8, 4, 3), text("a", "b", "c"))
	}
}

// P803: sessions that were not used for a span go ahead of bytes that are no command, too.
func TestNoCommandsExpire(t *testing.T) {
	for what, b := range notCommands() {
		m := newMachine(t, 4)
		applies(t, m, opens(), opened(1))
		applies(t, m, opens(), opened(2))
		appliesAt(t, m, 5, b, failed(api.ErrForm))
		wantSessions(t, what, m, 2)
	}
}

// P802, P803: what the calls answer are commands, at their edges, too.
func TestCommandsApply(t *testing.T) {
	m := restored(t, span, num(most-5, 0, 0, 1, most-6, 0, 0, most-6))
	put, _ := machine.Put(most-6, most, []byte(long(1024)))
	again, _ := machine.Put(most-6, 1, nil)
	other, _ := machine.Put(most, 1, nil)
	trim, _ := machine.Trim(most)
	applies(t, m, machine.Open(), opened(most-4))
	applies(t, m, put, number(0))
	applies(t, m, again, failed(api.ErrOld))
	applies(t, m, other, failed(api.ErrSession))
	applies(t, m, trim, number(1))
	wantSaved(t, "at the edges", m, num(most, 1, 1, 2, most-6, most, 0, most-2, most-4, 0, 0, most-4))
}
