package machine_test

import (
	"bytes"
	"cmp"
	"fmt"
	"math/rand"
	"slices"
	"testing"

	"hustings/api"
	"hustings/machine"
)

// asked: a session of a model.
type asked struct{ number, seq, record, used int }

// model: a machine that keeps all records, and sessions in a list.
type model struct {
	span, applied, start int
	records              []string
	sessions             []asked
}

func (x *model) expire(index int) {
	x.applied = index
	x.sessions = slices.DeleteFunc(x.sessions, func(s asked) bool { return index-s.used >= x.span })
}

func (x *model) open(index int) machine.Result {
	x.expire(index)
	if len(x.sessions) >= 16 {
		return failed(api.ErrSession)
	}
	x.sessions = append(x.sessions, asked{number: index, used: index})
	return opened(index)
}

func (x *model) put(index, session, seq int, data string) machine.Result {
	x.expire(index)
	i := slices.IndexFunc(x.sessions, func(s asked) bool { return s.number == session })
	if i < 0 {
		return failed(api.ErrSession)
	}
	s := &x.sessions[i]
	s.used = index
	switch cmp.Compare(seq, s.seq) {
	case -1:
		return failed(api.ErrOld)
	case 1:
		s.seq, s.record = seq, len(x.records)
		x.records = append(x.records, data)
	}
	return number(s.record)
}

func (x *model) trim(index, to int) machine.Result {
	x.expire(index)
	x.start = max(x.start, min(to, len(x.records)))
	return number(x.start)
}

func (x *model) save() []byte {
	b := num(x.applied, x.start, len(x.records), len(x.sessions))
	for _, s := range x.sessions {
		b = append(b, num(s.number, s.seq, s.record, s.used)...)
	}
	return append(b, text(x.records[x.start:]...)...)
}

// step: a command by chance, at an index, and what the model makes of it.
func (x *model) step(random *rand.Rand, index int) ([]byte, machine.Result) {
	switch random.Intn(8) {
	case 0, 1:
		return opens(), x.open(index)
	case 2:
		to := random.Intn(len(x.records) + 3)
		return trims(to), x.trim(index, to)
	case 3:
		x.expire(index)
		return num(random.Intn(2) * 4), failed(api.ErrForm)
	}
	session, seq := 1+random.Intn(index+3), 1+random.Intn(6)
	if len(x.sessions) > 0 && random.Intn(5) > 0 {
		s := x.sessions[random.Intn(len(x.sessions))]
		session, seq = s.number, max(1, s.seq+random.Intn(4)-1)
	}
	data := fmt.Sprint(session, "-", seq, "-", index)
	return puts(session, seq, data), x.put(index, session, seq, data)
}

// told: the number of the record that an OK put of a session and seq told.
type told map[[2]int]int

// once: one session and seq tell one number, and one number is told of no others.
func (l told) once(t *testing.T, command []byte, r machine.Result) {
	t.Helper()
	var session, seq int
	if r.E != api.OK || len(command) < 2 || command[1] != 2 {
		return
	}
	fields := command[2:]
	for _, n := range []*int{&session, &seq} {
		for i := int(fields[0]); i > 0; i-- {
			*n = *n*256 + int(fields[i])
		}
		fields = fields[1+fields[0]:]
	}
	for key, n := range l {
		if (key == [2]int{session, seq}) != (n == r.Number) {
			t.Fatalf("session %d, seq %d: number %d; session %d, seq %d: number %d", session, seq, r.Number, key[0], key[1], n)
		}
	}
	l[[2]int{session, seq}] = r.Number
}

// P803 to P807: rows of commands by chance: a machine does what the model does; a second one the same; and so does one that is restored again and again.
func TestAlike(t *testing.T) {
	for row := range 300 {
		random := rand.New(rand.NewSource(int64(row)))
		long := 1 + random.Intn(1+random.Intn(60))
		x := &model{span: long}
		m, twin, again := newMachine(t, long), newMachine(t, long), newMachine(t, long)
		numbers := told{}
		index := 0
		for range 120 {
			index += 1 + random.Intn(1+random.Intn(3))
			command, want := x.step(random, index)
			for what, m := range map[string]*machine.Machine{"one": m, "its twin": twin, "one restored": again} {
				if r, e := m.Apply(index, command); r != want || e != api.OK {
					t.Fatalf("row %d, %s: %v at %d: %v, %d; want %v", row, what, command, index, r, e, want)
				}
				if b := m.Save(); !bytes.Equal(b, x.save()) {
					t.Fatalf("row %d, %s: saved is %v, want %v", row, what, b, x.save())
				}
			}
			numbers.once(t, command, want)
			if random.Intn(3) == 0 {
				again = restored(t, long, again.Save())
			}
			if m.Start() != x.start || m.Next() != len(x.records) || len(m.Sessions()) != len(x.sessions) {
				t.Fatal("row", row, m.Start(), m.Next(), m.Sessions())
			}
			from := x.start + random.Intn(len(x.records)-x.start+1)
			wantRead(t, again, from, 9, api.OK, x.records[from:min(from+9, len(x.records))]...)
		}
	}
}
