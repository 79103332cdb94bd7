package net_test

import (
	"fmt"
	"testing"

	"hustings/api"
	"hustings/net"
)

// P1701: a nil Net, and one that New did not make; and it stays so.
func TestNobody(t *testing.T) {
	for what, n := range map[string]*net.Net{"nil": nil, "not made": {}, "new": new(net.Net)} {
		for range 2 {
			wantErr(t, what, n.Send(letter(0, 1, "x")), api.ErrArg)
			wantErr(t, what, n.Send(net.Letter{}), api.ErrArg)
			wantErr(t, what, n.Wall(nil), api.ErrArg)
			wantErr(t, what, n.Wall([]int{1}), api.ErrArg)
			wantErr(t, what, n.Wall([]int{16}), api.ErrArg)
			for _, k := range []int{0, 1, -1, lowest, highest} {
				l, e := n.Look(k)
				wantNone(t, what, l, e, api.ErrArg)
				l, e = n.Take(k)
				wantNone(t, what, l, e, api.ErrArg)
				wantErr(t, what, n.Lose(k), api.ErrArg)
				wantErr(t, what, n.Double(k), api.ErrArg)
				if i := n.Next(k); i != 0 {
					t.Errorf("%s: Next(%d) is %d", what, k, i)
				}
			}
			if n.Len() != 0 || n.Clear() != 0 || n.Open(letter(0, 1, "x")) {
				t.Errorf("%s: Len %d, Clear %d, Open %v", what, n.Len(), n.Clear(), n.Open(letter(0, 1, "x")))
			}
		}
	}
}

// P1702: New takes from 1 to 10000; its Net has no letters, and no wall.
func TestNew(t *testing.T) {
	for _, most := range []int{0, -1, 10001, 1 << 40, lowest, highest} {
		if n, e := net.New(most); n != nil || e != api.ErrArg {
			t.Errorf("New(%d): %v, error %d", most, n, e)
		}
	}
	for _, most := range []int{1, 2, 500, 9999, 10000} {
		n := made(t, most)
		if n.Len() != 0 || n.Next(0) != -1 || n.Clear() != 0 || !n.Open(letter(0, 15, "")) {
			t.Errorf("New(%d): it has something", most)
		}
	}
}

// P1702: a Net takes as many letters as it was made for, and no more; there is room again for each that goes.
func TestFull(t *testing.T) {
	for _, most := range []int{1, 2, 3, 100, 10000} {
		n := made(t, most)
		for k := range most {
			wantErr(t, "Send", n.Send(net.Letter{From: k % 16, To: (k + 1) % 16}), api.OK)
		}
		refused := func() {
			t.Helper()
			wantErr(t, "Send to a full one", n.Send(letter(0, 1, "x")), api.ErrFull)
			wantErr(t, "Double in a full one", n.Double(most-1), api.ErrFull)
			// Which letter may not be, or is not there, is told ahead of that.
			wantErr(t, "Send to a full one", n.Send(letter(1, 1, "x")), api.ErrArg)
			wantErr(t, "Double in a full one", n.Double(most), api.ErrNone)
			wantErr(t, "Double in a full one", n.Double(-1), api.ErrNone)
			if n.Len() != most {
				t.Fatalf("%d letters of %d", n.Len(), most)
			}
		}
		refused()
		take(t, n, most-1, net.Letter{From: (most - 1) % 16, To: most % 16})
		send(t, n, letter(0, 1, "x"))
		refused()
		wantErr(t, "Lose", n.Lose(0), api.OK)
		send(t, n, letter(0, 1, "y"))
		refused()
		wantErr(t, "Lose", n.Lose(0), api.OK)
		if most > 1 {
			wantErr(t, "Double", n.Double(0), api.OK)
			refused()
		}
	}
}

// P1702: a letter that may not be: its ends from 0 to 15, unlike; at most MaxBytes bytes.
func TestSendErrors(t *testing.T) {
	n := filled(t, 9, letter(3, 4, "x"))
	big := make([]byte, api.MaxBytes+1)
	for _, l := range []net.Letter{
		{},
		letter(5, 5, "x"),
		letter(15, 15, ""),
		letter(-1, 1, "x"),
		letter(1, -1, "x"),
		letter(-1, -2, "x"),
		letter(16, 1, "x"),
		letter(1, 16, "x"),
		letter(16, 17, "x"),
		letter(lowest, 1, "x"),
		letter(1, lowest, "x"),
		letter(highest, 1, "x"),
		letter(1, highest, "x"),
		letter(16, 16, "x"),
		{From: 0, To: 1, B: big},
		{From: 1, To: 1, B: big},
	} {
		wantErr(t, one(l), n.Send(l), api.ErrArg)
		if n.Open(l) {
			t.Errorf("%s may not be, but it passes", one(l))
		}
	}
	wantLetters(t, n, letter(3, 4, "x"))
	for _, l := range []net.Letter{letter(0, 15, ""), letter(15, 0, "x"), {From: 0, To: 1, B: big[:api.MaxBytes]}, {From: 1, To: 0}} {
		if !n.Open(l) {
			t.Errorf("%s may be, but it does not pass", one(l))
		}
		send(t, n, l)
		got, e := n.Look(n.Len() - 1)
		if e != api.OK || one(got) != one(l) {
			t.Errorf("%s, error %d, not %s", one(got), e, one(l))
		}
	}
}

// P1702: places that are not there: ErrNone, and nothing has changed; none counts from the end.
func TestPlaces(t *testing.T) {
	for count := range 4 {
		l := []net.Letter{letter(0, 1, "a"), letter(1, 2, "b"), letter(2, 3, "c")}[:count]
		n := filled(t, 9, l...)
		for _, k := range []int{-1, -2, -3, count, count + 1, lowest, lowest + 1, highest} {
			x, e := n.Look(k)
			wantNone(t, fmt.Sprintf("Look(%d) of %d", k, count), x, e, api.ErrNone)
			x, e = n.Take(k)
			wantNone(t, fmt.Sprintf("Take(%d) of %d", k, count), x, e, api.ErrNone)
			wantErr(t, fmt.Sprintf("Lose(%d) of %d", k, count), n.Lose(k), api.ErrNone)
			wantErr(t, fmt.Sprintf("Double(%d) of %d", k, count), n.Double(k), api.ErrNone)
			wantLetters(t, n, l...)
		}
	}
}

// P1702: what goes is the kth, and the others keep their order.
func TestGoes(t *testing.T) {
	a, b, c, d := letter(0, 1, "a"), letter(1, 2, "b"), letter(2, 3, ""), letter(3, 0, "d")
	n := filled(t, 9, a, b, c, d)
	take(t, n, 1, b)
	wantLetters(t, n, a, c, d)
	wantErr(t, "Lose", n.Lose(2), api.OK)
	wantLetters(t, n, a, c)
	wantErr(t, "Lose", n.Lose(0), api.OK)
	wantLetters(t, n, c)
	send(t, n, b)
	wantLetters(t, n, c, b)
	take(t, n, 0, c)
	take(t, n, 0, b)
	wantLetters(t, n)
}

// P1702: Double: the same once more, as the last one; the first stays in its place.
func TestDouble(t *testing.T) {
	a, b, c := letter(0, 1, "a"), letter(1, 2, "b"), letter(2, 3, "c")
	n := filled(t, 9, a, b, c)
	wantErr(t, "Double", n.Double(0), api.OK)
	wantLetters(t, n, a, b, c, a)
	wantErr(t, "Double", n.Double(3), api.OK)
	wantErr(t, "Double", n.Double(1), api.OK)
	wantLetters(t, n, a, b, c, a, a, b)
	take(t, n, 0, a)
	take(t, n, 4, b)
	wantLetters(t, n, b, c, a, a)
	// A wall keeps nobody from it, nor from losing one.
	wall(t, n, 2)
	wantErr(t, "Double", n.Double(0), api.OK)
	wantErr(t, "Lose", n.Lose(1), api.OK)
	wantLetters(t, n, b, a, a, b)
}

// P1702: Clear: all go, and how many; the wall stays.
func TestClear(t *testing.T) {
	n := filled(t, 3, letter(0, 1, "a"), letter(1, 2, "b"), letter(2, 3, "c"))
	wall(t, n, 1, 2)
	if gone := n.Clear(); gone != 3 || n.Len() != 0 || n.Next(0) != -1 {
		t.Errorf("%d went, %d are there", gone, n.Len())
	}
	l, e := n.Look(0)
	wantNone(t, "Look", l, e, api.ErrNone)
	if n.Open(letter(0, 1, "a")) || !n.Open(letter(1, 2, "b")) {
		t.Error("the wall has changed")
	}
	if gone := n.Clear(); gone != 0 {
		t.Errorf("%d went of none", gone)
	}
	send(t, n, letter(1, 2, "x"), letter(1, 2, "y"), letter(1, 2, "z"))
	wantErr(t, "Send", n.Send(letter(1, 2, "x")), api.ErrFull)
	wantLetters(t, n, letter(1, 2, "x"), letter(1, 2, "y"), letter(1, 2, "z"))
}

// Example: a letter waits behind a wall.
func Example() {
	n, _ := net.New(10)
	n.Send(net.Letter{From: 0, To: 1, B: []byte("hi")})
	n.Wall([]int{1})
	_, e := n.Take(0)
	fmt.Println(e == api.ErrBusy)
	n.Wall(nil)
	l, e := n.Take(0)
	fmt.Println(l.From, l.To, string(l.B), e, n.Len())
	// Output:
	// true
	// 0 1 hi 0 0
}
