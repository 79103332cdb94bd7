package machine_test

import (
	"bytes"
	"testing"

	"hustings/api"
	"hustings/machine"
)

// P801: a machine that is nil, or that neither New nor Restore made.
func TestUnmade(t *testing.T) {
	for what, m := range map[string]*machine.Machine{"nil": nil, "zero": {}, "new": new(machine.Machine)} {
		for range 2 {
			for _, index := range []int{-1, 0, 1, most + 1} {
				if r, e := m.Apply(index, opens()); r != (machine.Result{}) || e != api.ErrArg {
					t.Error(what, "Apply", index, r, e)
				}
			}
			if m.Applied() != 0 || m.Start() != 0 || m.Next() != 0 || len(m.Sessions()) != 0 || len(m.Save()) != 0 {
				t.Error(what, m.Applied(), m.Start(), m.Next(), m.Sessions(), m.Save())
			}
			for _, from := range []int{-1, 0, 1} {
				wantRead(t, m, from, 1, api.ErrArg)
			}
		}
	}
}

// P805: which spans may be.
func TestSpans(t *testing.T) {
	b := num(0, 0, 0, 0)
	for _, n := range []int{1, 2, 1<<40 - 1, 1 << 40} {
		wantSaved(t, "new", newMachine(t, n), b)
		wantSaved(t, "restored", restored(t, n, b), b)
	}
	for _, n := range []int{0, -1, lowest, 1<<40 + 1, highest} {
		if m, e := machine.New(n); m != nil || e != api.ErrArg {
			t.Error("New", n, e)
		}
		for _, b := range [][]byte{b, nil, {0}} {
			if m, e := machine.Restore(n, b); m != nil || e != api.ErrArg {
				t.Error("Restore", n, b, e)
			}
		}
	}
}

// The chapter's example.
func TestExample(t *testing.T) {
	m := newMachine(t, 10)
	appliesAt(t, m, 1, opens(), opened(1))
	appliesAt(t, m, 2, puts(1, 5, "x"), number(0))
	appliesAt(t, m, 3, puts(1, 5, "x"), number(0))
	appliesAt(t, m, 4, puts(1, 4, "y"), failed(api.ErrOld))
	wantSaved(t, "example", m, num(4, 0, 1, 1, 1, 5, 0, 4), text("x"))
}

// P803: an index that is not above the last one, or above the highest, changes nothing, not even which sessions there are.
func TestIndexes(t *testing.T) {
	m := newMachine(t, 4)
	for _, index := range []int{0, -1, lowest} {
		if r, e := m.Apply(index, opens()); r != (machine.Result{}) || e != api.ErrGap {
			t.Error(index, r, e)
		}
	}
	appliesAt(t, m, 3, opens(), opened(3))
	appliesAt(t, m, 5, puts(3, 1, "a"), number(0))
	before := m.Save()
	for _, command := range [][]byte{opens(), puts(3, 2, "b"), puts(3, 1, "a"), puts(4, 1, "a"), trims(1), nil} {
		for index, want := range map[int]api.Errno{
			5: api.ErrGap, 4: api.ErrGap, 1: api.ErrGap, 0: api.ErrGap, -1: api.ErrGap, lowest: api.ErrGap,
			most + 1: api.ErrRange, most + 2: api.ErrRange, highest: api.ErrRange,
		} {
			if r, e := m.Apply(index, command); r != (machine.Result{}) || e != want {
				t.Error(index, command, r, e)
			}
			wantSaved(t, "refused", m, before)
		}
	}
	appliesAt(t, m, most, opens(), opened(most))
	wantSaved(t, "last", m, num(most, 0, 1, 1, most, 0, 0, most), text("a"))
	for index, want := range map[int]api.Errno{most: api.ErrGap, most - 1: api.ErrGap, most + 1: api.ErrRange} {
		if r, e := m.Apply(index, opens()); r != (machine.Result{}) || e != want {
			t.Error("behind the last", index, r, e)
		}
	}
}

// P803: a session goes at its last use and a span, not ahead of it, whatever is asked then.
func TestExpires(t *testing.T) {
	for _, span := range []int{1, 2, 3, 10, 1 << 30, 1<<40 - 2} {
		for what, command := range map[string][]byte{"trim": trims(0), "none": nil, "put": puts(9, 1, "x")} {
			m := newMachine(t, span)
			appliesAt(t, m, 1, opens(), opened(1))
			if span > 1 {
				m.Apply(span, command)
				wantSessions(t, what, m, 1)
			}
			m.Apply(span+1, command)
			wantSessions(t, what, m)
			m = newMachine(t, span)
			appliesAt(t, m, 1, opens(), opened(1))
			if span+2 <= most {
				m.Apply(span+2, command)
				wantSessions(t, what+" later", m)
			}
		}
	}
}

// P803: with the longest spans none goes.
func TestNeverExpires(t *testing.T) {
	for _, span := range []int{most, most + 1} {
		m := newMachine(t, span)
		appliesAt(t, m, 1, opens(), opened(1))
		appliesAt(t, m, most, puts(1, 1, "x"), number(0))
		wantSessions(t, "longest", m, 1)
	}
}

// P803: a put that comes at the last moment is done, one later is refused, and adds nothing.
func TestExpiresAheadOfPut(t *testing.T) {
	m := newMachine(t, 4)
	appliesAt(t, m, 1, opens(), opened(1))
	appliesAt(t, m, 4, puts(1, 1, "a"), number(0))
	appliesAt(t, m, 7, puts(1, 1, "a"), number(0))
	appliesAt(t, m, 11, puts(1, 2, "b"), failed(api.ErrSession))
	appliesAt(t, m, 12, puts(1, 1, "a"), failed(api.ErrSession))
	wantSaved(t, "expired", m, num(12, 0, 1, 0), text("a"))
}

// P803: which commands use a session: those to put into it, refused as old or not, and no others.
func TestUses(t *testing.T) {
	for what, c := range map[string]struct {
		command []byte
		want    machine.Result
		used    int
	}{
		"a new put":                {puts(1, 6, "b"), number(1), 3},
		"the last put again":       {puts(1, 5, "a"), number(0), 3},
		"that with other data":     {puts(1, 5, "other"), number(0), 3},
		"an old put":               {puts(1, 4, "a"), failed(api.ErrOld), 3},
		"another session's put":    {puts(2, 5, "a"), failed(api.ErrSession), 2},
		"a put of too much":        {puts(1, 6, long(1025)), failed(api.ErrForm), 2},
		"a trim":                   {trims(0), number(0), 2},
		"a session that is opened": {opens(), opened(3), 2},
		"no command":               {nil, failed(api.ErrForm), 2},
	} {
		m := newMachine(t, 4)
		applies(t, m, opens(), opened(1))
		applies(t, m, puts(1, 5, "a"), number(0))
		applies(t, m, c.command, c.want)
		appliesAt(t, m, c.used+3, nil, failed(api.ErrForm))
		if l := m.Sessions(); len(l) == 0 || l[0] != 1 {
			t.Errorf("%s: the session went too early", what)
		}
		appliesAt(t, m, c.used+4, nil, failed(api.ErrForm))
		if l := m.Sessions(); len(l) > 0 && l[0] == 1 {
			t.Errorf("%s: the session stayed too long", what)
		}
	}
}

// P803: sixteen sessions, and no more till one of them goes.
func TestSixteen(t *testing.T) {
	m := newMachine(t, 20)
	var all []int
	for i := 1; i <= 16; i++ {
		applies(t, m, opens(), opened(i))
		all = append(all, i)
	}
	applies(t, m, opens(), failed(api.ErrSession))
	applies(t, m, opens(), failed(api.ErrSession))
	wantSessions(t, "sixteen", m, all...)
	applies(t, m, puts(1, 1, "a"), number(0))
	applies(t, m, opens(), failed(api.ErrSession))
	appliesAt(t, m, 21, opens(), failed(api.ErrSession))
	wantSessions(t, "still", m, all...)
	appliesAt(t, m, 22, opens(), opened(22))
	wantSessions(t, "one less, one more", m, append(append([]int{1}, all[2:]...), 22)...)
}

// P803, P806: a session's puts: new ones, the last one again, elder ones.
func TestPuts(t *testing.T) {
	m := newMachine(t, span)
	applies(t, m, opens(), opened(1))
	applies(t, m, opens(), opened(2))
	applies(t, m, puts(1, 3, "a"), number(0))
	applies(t, m, puts(2, 3, "b"), number(1))
	applies(t, m, puts(1, 3, "c"), number(0))
	applies(t, m, puts(1, 4, ""), number(2))
	applies(t, m, puts(1, 3, "a"), failed(api.ErrOld))
	applies(t, m, puts(1, 1, "a"), failed(api.ErrOld))
	applies(t, m, puts(2, 3, "b"), number(1))
	applies(t, m, puts(2, 100, long(1024)), number(3))
	applies(t, m, puts(1, 4, "d"), number(2))
	applies(t, m, puts(1, most, "e"), number(4))
	applies(t, m, puts(1, most, "f"), number(4))
	applies(t, m, puts(1, most-1, "g"), failed(api.ErrOld))
	applies(t, m, puts(3, 1, "h"), failed(api.ErrSession))
	applies(t, m, puts(most, 1, "h"), failed(api.ErrSession))
	wantRead(t, m, 0, 9, api.OK, "a", "b", "", long(1024), "e")
	wantSaved(t, "puts", m, num(16, 0, 5, 2, 1, most, 4, 14, 2, 100, 3, 10), text("a", "b", "", long(1024), "e"))
}

// P803: trims: below Start, at it, between, at Next and above; the last put's number is told, though its record is gone.
func TestTrims(t *testing.T) {
	m := newMachine(t, span)
	applies(t, m, trims(0), number(0))
	applies(t, m, trims(most), number(0))
	applies(t, m, opens(), opened(3))
	for i, s := range []string{"a", "b", "c", "d", "e"} {
		applies(t, m, puts(3, i+1, s), number(i))
	}
	for _, c := range []struct{ to, want int }{{0, 0}, {2, 2}, {1, 2}, {0, 2}, {2, 2}, {3, 3}, {4, 4}} {
		applies(t, m, trims(c.to), number(c.want))
		if m.Start() != c.want || m.Next() != 5 {
			t.Error("trimmed to", c.to, m.Start(), m.Next())
		}
		wantRead(t, m, c.want, 9, api.OK, []string{"a", "b", "c", "d", "e"}[c.want:]...)
	}
	applies(t, m, puts(3, 6, "f"), number(5))
	applies(t, m, trims(6), number(6))
	wantRead(t, m, 6, 9, api.OK)
	applies(t, m, trims(7), number(6))
	applies(t, m, trims(most), number(6))
	applies(t, m, puts(3, 6, "f"), number(5))
	applies(t, m, puts(3, 7, "g"), number(6))
	applies(t, m, puts(3, 8, "h"), number(7))
	applies(t, m, trims(most), number(8))
	wantSaved(t, "trimmed", m, num(m.Applied(), 8, 8, 1, 3, 8, 7, m.Applied()-1))
}

// P801: Apply keeps nothing of its bytes, and leaves them as they are.
func TestApplyKeepsNothing(t *testing.T) {
	m := newMachine(t, span)
	applies(t, m, opens(), opened(1))
	for seq, s := range []string{"hello", "", long(1024)} {
		before := puts(1, seq+1, s)
		command := wide(before)
		applies(t, m, command, number(seq))
		wantUntouched(t, "Apply", command, before)
		spoil(command)
	}
	wantRead(t, m, 0, 9, api.OK, "hello", "", long(1024))
}

// P801: answers are new, and share nothing with one another.
func TestAnswersAreNew(t *testing.T) {
	m := newMachine(t, span)
	applies(t, m, opens(), opened(1))
	applies(t, m, opens(), opened(2))
	for i, s := range []string{"ab", "cd", "", "ef"} {
		applies(t, m, puts(2, i+1, s), number(i))
	}
	saved := m.Save()
	want := bytes.Clone(saved)
	l, _ := m.Read(0, 9)
	for i, b := range l {
		spoil(b)
		for _, other := range l[i+1:] {
			if s := string(other); s != "cd" && s != "" && s != "ef" {
				t.Errorf("two records of one answer share something: %q", s)
			}
		}
	}
	for i := range l[:cap(l)] {
		l[:cap(l)][i] = nil
	}
	numbers := m.Sessions()
	for i := range numbers[:cap(numbers)] {
		numbers[:cap(numbers)][i] = 99
	}
	other := m.Save()
	spoil(saved)
	if !bytes.Equal(other, want) {
		t.Error("a Save hangs on another answer")
	}
	wantSaved(t, "behind all", m, want)
	wantSessions(t, "behind all", m, 1, 2)
}

// P801: the commands' calls change nothing, and their answers are new.
func TestCommandsAreNew(t *testing.T) {
	data := wide([]byte("hello"))
	one, _ := machine.Put(1, 2, data)
	two, _ := machine.Put(1, 2, data)
	spoil(one)
	wantUntouched(t, "Put", data, []byte("hello"))
	spoil(data)
	spoil(machine.Open())
	trim, _ := machine.Trim(300)
	spoil(trim)
	trim, _ = machine.Trim(300)
	if !bytes.Equal(two, puts(1, 2, "hello")) || !bytes.Equal(machine.Open(), opens()) || !bytes.Equal(trim, trims(300)) {
		t.Error("a command hangs on another answer, or on what was handed in")
	}
}
