package machine_test

import (
	"bytes"
	"math/rand"
	"testing"

	"hustings/api"
	"hustings/machine"
)

// P804: records from a number on.
func TestRead(t *testing.T) {
	m := restored(t, span, num(9, 3, 6, 0), text("a", "b", "c"))
	for _, most := range []int{lowest, -1, 0, 1, 2, 3, 4, 9, highest} {
		for from := -2; from < 9; from++ {
			switch {
			case from < 3:
				wantRead(t, m, from, most, api.ErrBelow)
			case from > 6:
				wantRead(t, m, from, most, api.ErrRange)
			default:
				want := []string{"a", "b", "c"}[from-3:]
				wantRead(t, m, from, most, api.OK, want[:max(min(most, len(want)), 0)]...)
			}
		}
		wantRead(t, m, lowest, most, api.ErrBelow)
		wantRead(t, m, highest, most, api.ErrRange)
		wantRead(t, newMachine(t, 1), -1, most, api.ErrBelow)
		wantRead(t, newMachine(t, 1), 0, most, api.OK)
		wantRead(t, newMachine(t, 1), 1, most, api.ErrRange)
	}
	if m.Start() != 3 || m.Next() != 6 || m.Applied() != 9 {
		t.Error(m.Start(), m.Next(), m.Applied())
	}
	wantSaved(t, "looks change nothing", m, num(9, 3, 6, 0), text("a", "b", "c"))
}

// P804, P805: sessions rise, in what is told and in what is saved, though they stand in no order.
func TestSessionsRise(t *testing.T) {
	for range 50 {
		m := newMachine(t, span)
		want, saved := []int{}, num(1600, 0, 0, 16)
		for i := 100; i <= 1600; i += 100 {
			appliesAt(t, m, i, opens(), opened(i))
			want = append(want, i)
			saved = append(saved, num(i, 0, 0, i)...)
		}
		wantSessions(t, "rising", m, want...)
		wantSaved(t, "rising", m, saved)
	}
}

// sessions: as they are saved, from 1 on, each used at its number.
func sessions(n int) []byte {
	b := num(n)
	for i := range n {
		b = append(b, num(i+1, 0, 0, i+1)...)
	}
	return b
}

// P805: bytes that are asked for no more than this, at the edges: they are saved as they were.
func TestRestores(t *testing.T) {
	for what, b := range map[string][]byte{
		"the first":                      num(0, 0, 0, 0),
		"the highest numbers":            num(most, most, most, 0),
		"records above Applied":          join(num(0, 5, 7, 0), text("a", "b")),
		"Start at Next":                  num(9, 4, 4, 0),
		"a record alone":                 join(num(1, 0, 1, 0), text("")),
		"the longest record":             join(num(1, 7, 8, 0), text(long(1024))),
		"sixteen sessions":               join(num(16, 0, 0), sessions(16)),
		"session 1":                      num(1, 0, 0, 1, 1, 0, 0, 1),
		"a session at Applied":           num(9, 0, 0, 1, 9, 0, 0, 9),
		"a session used at its number":   num(9, 0, 0, 1, 5, 0, 0, 5),
		"a session used at Applied":      num(9, 0, 0, 1, 5, 0, 0, 9),
		"the highest session":            num(most, 0, 0, 1, most, 0, 0, most),
		"the highest seq":                num(9, 5, 5, 1, 5, most, 4, 9),
		"a record's number below Next":   join(num(9, 4, 6, 1, 5, 1, 5, 9), text("a", "b")),
		"a record's number at Start":     join(num(9, 4, 6, 1, 5, 1, 4, 9), text("a", "b")),
		"a record's number below Start":  join(num(9, 4, 6, 1, 5, 1, 3, 9), text("a", "b")),
		"a record's number 0":            join(num(9, 4, 6, 1, 5, 1, 0, 9), text("a", "b")),
		"a record's number 0, Next 0":    num(9, 0, 0, 1, 5, 1, 0, 9),
		"two sessions, used in any turn": num(9, 0, 0, 2, 5, 1, 0, 9, 6, 2, 0, 6),
		"two of one record":              num(9, 1, 1, 2, 5, 1, 0, 9, 6, 2, 0, 9),
	} {
		m, e := machine.Restore(span, b)
		if m == nil || e != api.OK {
			t.Errorf("%s: %d", what, e)
			continue
		}
		wantSaved(t, what, m, b)
	}
}

// P805: the bytes alone are asked: a last use that is a span ago stays till the next Apply.
func TestRestoresOldUse(t *testing.T) {
	b := num(9, 0, 0, 2, 1, 0, 0, 1, 2, 0, 0, 9)
	m := restored(t, 3, b)
	wantSaved(t, "a span ago", m, b)
	wantSessions(t, "a span ago", m, 1, 2)
	applies(t, m, puts(1, 1, "x"), failed(api.ErrSession))
	wantSaved(t, "and then", m, num(10, 0, 0, 1, 2, 0, 0, 9))
}

// P805: bytes that are no machine's.
func TestRestoreErrors(t *testing.T) {
	over := most + 1
	for what, b := range map[string][]byte{
		"nothing":                       nil,
		"empty":                         {},
		"a byte":                        {0},
		"a text":                        []byte("machine"),
		"no count of sessions":          num(0, 0, 0),
		"a byte behind":                 num(0, 0, 0, 0, 0),
		"a byte behind a record":        join(num(1, 0, 1, 0), text("a"), []byte{0}),
		"a record more":                 join(num(1, 0, 1, 0), text("a", "b")),
		"a record less":                 join(num(2, 0, 2, 0), text("a")),
		"a record, none to come":        join(num(2, 2, 2, 0), text("a")),
		"Applied 2^40":                  num(over, 0, 0, 0),
		"the highest Applied":           num(1<<48-1, 0, 0, 0),
		"Start and Next 2^40":           num(9, over, over, 0),
		"the highest Start and Next":    num(9, 1<<48-1, 1<<48-1, 0),
		"Next 2^40, a record":           join(num(9, most, over, 0), text("a")),
		"Start above Next":              num(9, 1, 0, 0),
		"Start above Next, a record":    join(num(9, 2, 1, 0), text("a")),
		"Start far above Next":          num(9, most, 0, 0),
		"records without end":           num(9, 0, most, 0),
		"records without end, but some": join(num(9, 0, most, 0), text("a", "b", "c")),
		"a record of 1025 bytes":        join(num(9, 0, 1, 0), text(long(1025))),
		"then one that may be":          join(num(9, 0, 2, 0), text(long(1025), "a")),
		"a record of 2^20 bytes":        join(num(9, 0, 1, 0), text(long(1<<20))),
		"a record cut off":              join(num(9, 0, 1, 0), text("abc"))[:8],
		"a record's length ends on 0":   join(num(9, 0, 1, 0), []byte{2, 1, 0, 'a'}),
		"Applied that ends on 0":        join([]byte{2, 9, 0}, num(0, 0, 0)),
		"seventeen sessions":            join(num(17, 0, 0), sessions(17)),
		"sessions without end":          num(9, 0, 0, 1<<48-1),
		"a session less":                num(9, 0, 0, 2, 5, 0, 0, 5),
		"a session more":                num(9, 0, 0, 1, 5, 0, 0, 5, 6, 0, 0, 6),
		"a session cut off":             num(9, 0, 0, 1, 5, 0, 0),
		"session 0":                     num(9, 0, 0, 1, 0, 0, 0, 5),
		"session 0, used at 0":          num(9, 0, 0, 1, 0, 0, 0, 0),
		"a session above Applied":       num(9, 0, 0, 1, 10, 0, 0, 10),
		"a session above, used below":   num(9, 0, 0, 1, 10, 0, 0, 9),
		"a session of none":             num(0, 0, 0, 1, 1, 0, 0, 1),
		"the same session twice":        num(9, 0, 0, 2, 5, 0, 0, 5, 5, 0, 0, 5),
		"sessions that fall":            num(9, 0, 0, 2, 6, 0, 0, 6, 5, 0, 0, 5),
		"the third falls":               num(9, 0, 0, 3, 2, 0, 0, 2, 6, 0, 0, 6, 5, 0, 0, 5),
		"seq 2^40":                      num(9, 0, 0, 1, 5, over, 0, 5),
		"the highest seq":               num(9, 0, 0, 1, 5, 1<<48-1, 0, 5),
		"a record's number at Next":     join(num(9, 4, 6, 1, 5, 1, 6, 9), text("a", "b")),
		"a record's number above Next":  join(num(9, 4, 6, 1, 5, 1, 7, 9), text("a", "b")),
		"a record's number 1, Next 0":   num(9, 0, 0, 1, 5, 1, 1, 9),
		"a record's number 1, Next 1":   num(9, 1, 1, 1, 5, 1, 1, 9),
		"a last use above Applied":      num(9, 0, 0, 1, 5, 0, 0, 10),
		"a last use ahead of its begin": num(9, 0, 0, 1, 5, 0, 0, 4),
		"a last use 0":                  num(9, 0, 0, 1, 5, 0, 0, 0),
		"the second's last use is none": num(9, 0, 0, 2, 5, 0, 0, 5, 6, 0, 0, 5),
	} {
		if m, e := machine.Restore(span, b); m != nil || e != api.ErrForm {
			t.Errorf("%s: %d", what, e)
		}
	}
}

// P805: of a machine's bytes no piece of the beginning is one's.
func TestRestoreCutOff(t *testing.T) {
	b := join(num(300, 4, 7, 2, 5, 0, 0, 5, 260, 300, 6, 280), text("a", "", "xyz"))
	for n := range b {
		if m, e := machine.Restore(span, b[:n]); m != nil || e != api.ErrForm {
			t.Errorf("%d of %d bytes: %d", n, len(b), e)
		}
	}
	wantSaved(t, "all", restored(t, span, b), b)
}

// P9: of any bytes there is an error, or a machine that saves the same.
func TestRestoreAny(t *testing.T) {
	b := join(num(300, 4, 7, 2, 5, 0, 0, 5, 260, 300, 6, 280), text("a", "", "xyz"))
	check := func(x []byte) {
		m, e := machine.Restore(span, x)
		switch {
		case e == api.ErrForm && m == nil:
		case e == api.OK && m != nil && bytes.Equal(m.Save(), x):
		default:
			t.Fatalf("%v: %d", x, e)
		}
	}
	for i := range b {
		for v := range 256 {
			x := bytes.Clone(b)
			x[i] = byte(v)
			check(x)
			check(append(append(bytes.Clone(b[:i]), byte(v)), b[i:]...))
		}
		check(append(bytes.Clone(b[:i]), b[i+1:]...))
	}
	random := rand.New(rand.NewSource(8))
	for range 20000 {
		x := make([]byte, random.Intn(24))
		for i := range x {
			x[i] = byte(random.Intn(3))
		}
		check(x)
	}
}

// P801: Restore keeps nothing of its bytes, and leaves them as they are.
func TestRestoreKeepsNothing(t *testing.T) {
	before := join(num(9, 4, 6, 1, 5, 1, 5, 9), text("abc", "de"))
	b := wide(before)
	m, e := machine.Restore(span, b)
	other, f := machine.Restore(span, b)
	if e != api.OK || f != api.OK {
		t.Fatal(e, f)
	}
	wantUntouched(t, "Restore", b, before)
	spoil(b)
	applies(t, other, puts(5, 2, "x"), number(6))
	applies(t, other, trims(5), number(5))
	appliesAt(t, other, 20, opens(), opened(20))
	wantSaved(t, "restored", m, before)
}
