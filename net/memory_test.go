package net_test

import (
	"slices"
	"testing"

	"hustings/api"
	"hustings/net"
)

// roomy: those bytes, with three behind them in the same room.
func roomy(text string) []byte {
	return append([]byte(text), 1, 2, 3)[:len(text)]
}

// spoil: writes into bytes and into the room behind them.
func spoil(b []byte) {
	for i := range b[:cap(b)] {
		b[:cap(b)][i] ^= 0xff
	}
}

// P1701: the bytes of a letter that is handed in are not changed, nor the room behind them, and not kept.
func TestSendKeepsNothing(t *testing.T) {
	n := made(t, 9)
	for _, text := range []string{"", "abc"} {
		l := net.Letter{From: 0, To: 1, B: roomy(text)}
		n.Open(l)
		send(t, n, l, l)
		if string(l.B[:len(text)+3]) != text+"\x01\x02\x03" {
			t.Errorf("<%s>: %v", text, l.B[:len(text)+3])
		}
		spoil(l.B)
	}
	wantLetters(t, n, letter(0, 1, ""), letter(0, 1, ""), letter(0, 1, "abc"), letter(0, 1, "abc"))
}

// P1701: a wall's list is not changed, nor the room behind it, and not kept.
func TestWallKeepsNothing(t *testing.T) {
	n := made(t, 9)
	ids := []int{2, 1, 2, 77, 78}
	wall(t, n, ids[:3]...)
	wantErr(t, "Wall", n.Wall(ids[:4]), api.ErrArg)
	if !slices.Equal(ids, []int{2, 1, 2, 77, 78}) {
		t.Error(ids)
	}
	for i := range ids {
		ids[i] = 5
	}
	if !n.Open(letter(5, 6, "")) || n.Open(letter(1, 5, "")) || !n.Open(letter(1, 2, "")) {
		t.Error("the wall has changed")
	}
}

// P1701: what is answered is new memory: who spoils it spoils neither the Net's letters, nor doubled ones, nor another answer.
func TestAnswersAreNew(t *testing.T) {
	abc := letter(0, 1, "abc")
	n := filled(t, 9, abc, letter(1, 0, ""))
	for range 2 {
		wantErr(t, "Double", n.Double(0), api.OK)
	}
	one, _ := n.Look(0)
	other, _ := n.Look(0)
	spoil(one.B)
	if string(other.B) != "abc" {
		t.Errorf("<%s>", other.B)
	}
	spoil(other.B)
	wantLetters(t, n, abc, letter(1, 0, ""), abc, abc)
	taken, _ := n.Take(0)
	spoil(taken.B)
	wantLetters(t, n, letter(1, 0, ""), abc, abc)
	taken, _ = n.Take(2)
	spoil(taken.B)
	wantLetters(t, n, letter(1, 0, ""), abc)
}

// P1701: Nets share nothing.
func TestApart(t *testing.T) {
	x, y := filled(t, 1, letter(0, 1, "x")), made(t, 2)
	send(t, y, letter(0, 1, "y"), letter(2, 3, "y"))
	wall(t, x, 0)
	take(t, y, 0, letter(0, 1, "y"))
	l, e := x.Take(0)
	wantNone(t, "Take", l, e, api.ErrBusy)
	x.Clear()
	wantLetters(t, y, letter(2, 3, "y"))
}
