package net_test

import (
	"fmt"
	"math/rand"
	"slices"
	"testing"

	"hustings/api"
	"hustings/net"
)

// P1702: a number that is no server's: ErrArg, wherever it stands, and the wall that was is there still.
func TestWallErrors(t *testing.T) {
	n := filled(t, 9, letter(0, 1, "a"), letter(1, 2, "b"))
	wall(t, n, 1, 2)
	for _, l := range [][]int{{-1}, {16}, {lowest}, {highest}, {0, 16}, {16, 0}, {0, 1, 2, -1}, {3, -1, 4}, {15, 14, 1 << 40}} {
		wantErr(t, fmt.Sprint(l), n.Wall(l), api.ErrArg)
		if n.Open(letter(0, 1, "a")) || !n.Open(letter(1, 2, "b")) || n.Next(0) != 1 {
			t.Errorf("%v: the wall has changed", l)
		}
	}
}

// P1702, P1705: all walls (each set of servers) and all ends: a letter passes, if both are within it, or both are outside.
func TestWalls(t *testing.T) {
	n := made(t, 10)
	for set := range 1 << api.MaxID {
		var ids []int
		for id := range api.MaxID {
			if set>>id&1 == 1 {
				ids = append(ids, id)
			}
		}
		wall(t, n, ids...)
		// All ends by each of the first walls, and one pair by each of the others.
		for pair := range api.MaxID * api.MaxID {
			from, to := pair/api.MaxID, pair%api.MaxID
			if from == to || set >= 300 && pair != set*7%(api.MaxID*api.MaxID) {
				continue
			}
			if passes := set>>from&1 == set>>to&1; n.Open(letter(from, to, "x")) != passes {
				t.Fatalf("%d to %d by a wall around %v: %v", from, to, ids, !passes)
			}
		}
	}
}

// P1702: a wall's servers may come in any order, and more than once; each Wall takes the place of the one that was.
func TestWallAnew(t *testing.T) {
	n := filled(t, 9, letter(0, 1, "a"), letter(1, 2, "b"), letter(2, 0, "c"), letter(3, 4, "d"))
	passing := func() []int {
		var l []int
		for k := n.Next(0); k >= 0; k = n.Next(k + 1) {
			l = append(l, k)
		}
		return l
	}
	for _, c := range []struct {
		ids, passes []int
	}{
		{nil, []int{0, 1, 2, 3}},
		{[]int{0}, []int{1, 3}},
		{[]int{1}, []int{2, 3}},
		{[]int{2, 1}, []int{1, 3}},
		{[]int{1, 2, 1, 1, 2}, []int{1, 3}},
		{[]int{4, 0, 3, 1, 2}, []int{0, 1, 2, 3}},
		{[]int{3}, []int{0, 1, 2}},
		{[]int{0, 3}, []int{1}},
		{[]int{0, 1, 4}, []int{0}},
		{[]int{15}, []int{0, 1, 2, 3}},
		{slices.Repeat([]int{0, 1, 4}, 1000), []int{0}},
		{[]int{}, []int{0, 1, 2, 3}},
	} {
		wall(t, n, c.ids...)
		if l := passing(); !slices.Equal(l, c.passes) {
			t.Errorf("%v: %v pass, not %v", c.ids[:min(len(c.ids), 9)], l, c.passes)
		}
	}
}

// P1702: Take of one that does not pass: ErrBusy, and nothing has changed; behind the wall it is there still.
func TestTakeBusy(t *testing.T) {
	a, b := letter(0, 1, "a"), letter(1, 2, "b")
	n := filled(t, 9, a, b)
	wall(t, n, 1, 2)
	for range 3 {
		l, e := n.Take(0)
		wantNone(t, "Take through the wall", l, e, api.ErrBusy)
	}
	l, e := n.Take(2)
	wantNone(t, "Take past the end", l, e, api.ErrNone)
	wantLetters(t, n, a, b)
	take(t, n, 1, b)
	wall(t, n)
	take(t, n, 0, a)
	wantLetters(t, n)
}

// P1702: Next: the first from a place on that passes, from 0 if that is below; -1, if there is none.
func TestNext(t *testing.T) {
	n := filled(t, 9, letter(0, 1, "a"), letter(1, 2, "b"), letter(0, 2, "c"), letter(2, 1, "d"))
	for _, c := range []struct {
		wall       []int
		from, want int
	}{
		{nil, 0, 0}, {nil, -1, 0}, {nil, lowest, 0}, {nil, 1, 1}, {nil, 3, 3}, {nil, 4, -1}, {nil, 5, -1}, {nil, highest, -1},
		{[]int{0}, 0, 1}, {[]int{0}, -7, 1}, {[]int{0}, 1, 1}, {[]int{0}, 2, 3}, {[]int{0}, 3, 3}, {[]int{0}, 4, -1},
		{[]int{1}, 0, 2}, {[]int{1}, lowest, 2}, {[]int{1}, 3, -1}, {[]int{1}, highest, -1},
		{[]int{0, 1, 2}, 0, 0},
	} {
		wall(t, n, c.wall...)
		if k := n.Next(c.from); k != c.want {
			t.Errorf("Next(%d) with a wall around %v: %d, not %d", c.from, c.wall, k, c.want)
		}
	}
	n = filled(t, 9, letter(0, 1, "a"))
	wall(t, n, 0)
	if k := n.Next(0); k != -1 {
		t.Errorf("none passes, but Next is %d", k)
	}
}

// P1704: where the first is taken each time, letters come in the order in which they were sent.
func TestInOrder(t *testing.T) {
	n := made(t, 10000)
	for k := range 10000 {
		send(t, n, letter(k%16, (k+1+k%15)%16, fmt.Sprint(k)))
	}
	for k := range 10000 {
		take(t, n, 0, letter(k%16, (k+1+k%15)%16, fmt.Sprint(k)))
	}
	l, e := n.Take(0)
	wantNone(t, "Take of none", l, e, api.ErrNone)
}

// P1702 to P1705: rows of calls by chance, against a list of letters and a set of servers.
func TestChance(t *testing.T) {
	for seed := range int64(300) {
		chance(t, rand.New(rand.NewSource(seed)))
	}
}

// model: what a Net is by the chapter's words.
type model struct {
	most    int
	letters []net.Letter
	wall    map[int]int
}

func (m *model) passes(l net.Letter) bool {
	return m.wall[l.From] == m.wall[l.To]
}

func (m *model) next(from int) int {
	for k, l := range m.letters {
		if k >= from && m.passes(l) {
			return k
		}
	}
	return -1
}

func (m *model) there(k int) bool { return k >= 0 && k < len(m.letters) }

func (m *model) take(k int) (net.Letter, api.Errno) {
	switch {
	case !m.there(k):
		return net.Letter{}, api.ErrNone
	case !m.passes(m.letters[k]):
		return net.Letter{}, api.ErrBusy
	}
	l := m.letters[k]
	m.lose(k)
	return l, api.OK
}

func (m *model) lose(k int) api.Errno {
	if !m.there(k) {
		return api.ErrNone
	}
	m.letters = append(slices.Clone(m.letters[:k]), m.letters[k+1:]...)
	return api.OK
}

func (m *model) double(k int) api.Errno {
	if !m.there(k) {
		return api.ErrNone
	}
	return m.send(m.letters[k])
}

func (m *model) send(l net.Letter) api.Errno {
	switch {
	case l.From == l.To || min(l.From, l.To) < 0 || max(l.From, l.To) > 15:
		return api.ErrArg
	case len(m.letters) == m.most:
		return api.ErrFull
	}
	m.letters = append(m.letters, l)
	return api.OK
}

func (m *model) around(ids []int) api.Errno {
	wall := map[int]int{}
	for _, id := range ids {
		if id < 0 || id > 15 {
			return api.ErrArg
		}
		wall[id] = 1
	}
	m.wall = wall
	return api.OK
}

func (m *model) clear() int {
	gone := len(m.letters)
	m.letters = nil
	return gone
}

func chance(t *testing.T, r *rand.Rand) {
	t.Helper()
	m := &model{most: 1 + r.Intn(12), wall: map[int]int{}}
	n := made(t, m.most)
	id := func() int { return r.Intn(18) - 1 }
	for step := range 300 {
		k := r.Intn(m.most+3) - 1
		switch r.Intn(12) {
		case 0, 1, 2, 3:
			l := letter(id(), id(), fmt.Sprint(step))
			if open, may := n.Open(l), (&model{most: 1}).send(l) == api.OK; open != (may && m.passes(l)) {
				t.Fatalf("Open %s: %v", one(l), open)
			}
			wantErr(t, one(l), n.Send(l), m.send(l))
		case 4, 5, 6:
			l, e := n.Take(k)
			want, wantE := m.take(k)
			wantErr(t, "Take", e, wantE)
			if one(l) != one(want) {
				t.Fatalf("Take: %s, not %s", one(l), one(want))
			}
		case 7, 8:
			wantErr(t, "Double", n.Double(k), m.double(k))
		case 9:
			wantErr(t, "Lose", n.Lose(k), m.lose(k))
		case 10:
			var ids []int
			for range r.Intn(8) {
				ids = append(ids, r.Intn(16+r.Intn(2)))
			}
			wantErr(t, "Wall", n.Wall(ids), m.around(ids))
		default:
			if r.Intn(10) == 0 && n.Clear() != m.clear() {
				t.Fatal("Clear")
			}
		}
		wantLetters(t, n, m.letters...)
		if n.Next(k) != m.next(k) || n.Next(0) != m.next(0) {
			t.Fatalf("Next: %d and %d, not %d and %d", n.Next(k), n.Next(0), m.next(k), m.next(0))
		}
	}
}
