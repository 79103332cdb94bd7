package reads_test

import (
	"testing"

	"hustings/api"
	"hustings/reads"
)

// P1401: of a Book that is nil, or that New did not make; and it stays so.
func TestUnmade(t *testing.T) {
	for what, b := range map[string]*reads.Book{"nil": nil, "zero": {}, "new": new(reads.Book)} {
		for range 2 {
			for _, n := range []int{0, 1, -1, 15, 16, highest, lowest} {
				if e := b.Ask(n, 0, 0); e != api.ErrArg {
					t.Errorf("%s: Ask(%d, 0, 0): error %d", what, n, e)
				}
				if e := b.Ask(0, n, n); e != api.ErrArg {
					t.Errorf("%s: Ask(0, %d, %d): error %d", what, n, n, e)
				}
				if e := b.Heard(n, 0); e != api.ErrArg {
					t.Errorf("%s: Heard(%d, 0): error %d", what, n, e)
				}
				if e := b.Heard(0, n); e != api.ErrArg {
					t.Errorf("%s: Heard(0, %d): error %d", what, n, e)
				}
			}
			for _, servers := range [][]int{nil, {0}, {0, 1, 2}} {
				wantReady(t, b, servers)
			}
			wantWaiting(t, b)
			if l := b.Clear(); len(l) != 0 {
				t.Errorf("%s: Clear: %v", what, l)
			}
		}
	}
}

// P1402: a leader's number is from 0 to 15; its Book has nothing at first.
func TestNew(t *testing.T) {
	for _, me := range []int{lowest, lowest + 1, -16, -1, 16, 17, 1 << 40, highest} {
		if b, e := reads.New(me); b != nil || e != api.ErrArg {
			t.Errorf("New(%d): %v, error %d", me, b, e)
		}
	}
	for me := range 16 {
		b := made(t, me)
		wantWaiting(t, b)
		wantReady(t, b, []int{me})
		if l := b.Clear(); len(l) != 0 {
			t.Errorf("Clear: %v", l)
		}
	}
}

// P1402: nobody was heard at first, in no round, not in round 0 either.
func TestNewHeardNothing(t *testing.T) {
	for me := range 16 {
		other := (me + 7) % 16
		b := made(t, me)
		ask(t, b, 1, 2, 0)
		wantReady(t, b, []int{me, other})
		hear(t, b, other, 0)
		wantReady(t, b, []int{me, other}, reads.Ready{ID: 1, Index: 2})
	}
}

// P1402: an index or a round below 0 is refused first, then an id that waits, then the 101st.
func TestAskErrors(t *testing.T) {
	b := made(t, 3)
	low := []int{-1, -2, lowest + 1, lowest}
	refused := func(id int) {
		t.Helper()
		for _, n := range low {
			for _, a := range [][2]int{{n, 0}, {0, n}, {n, n}, {n, highest}, {highest, n}} {
				if e := b.Ask(id, a[0], a[1]); e != api.ErrArg {
					t.Errorf("Ask(%d, %d, %d): error %d", id, a[0], a[1], e)
				}
			}
		}
	}
	var ids []int
	for id := range room {
		refused(id)
		wantWaiting(t, b, ids...)
		ask(t, b, id, id+5, 1)
		ids = append(ids, id)
		refused(id)
		if e := b.Ask(id, 77, 0); e != api.ErrThere {
			t.Errorf("Ask(%d) again: error %d", id, e)
		}
		wantWaiting(t, b, ids...)
	}
	for _, id := range []int{room, -1, highest, lowest} {
		refused(id)
		if e := b.Ask(id, 0, 0); e != api.ErrFull {
			t.Errorf("Ask(%d) of a full Book: error %d", id, e)
		}
	}
	if e := b.Ask(99, 0, 0); e != api.ErrThere {
		t.Errorf("Ask(99) again, of a full Book: error %d", e)
	}
	wantWaiting(t, b, ids...)
	var all []reads.Ready
	for id := range room {
		all = append(all, reads.Ready{ID: id, Index: id + 5})
	}
	wantReady(t, b, []int{3}, all...)
}

// P1402: ids are any numbers, and an index and a round are any from 0 on.
func TestAskAnyNumber(t *testing.T) {
	b := made(t, 0)
	var want []reads.Ready
	var ids []int
	for i, id := range []int{0, -1, 1, lowest, highest, 16, lowest + 1, 1 << 40} {
		index := []int{0, 1, highest, 1 << 40, highest - 1}[i%5]
		round := []int{0, highest, 1}[i%3]
		ask(t, b, id, index, round)
		ids = append(ids, id)
		want = append(want, reads.Ready{ID: id, Index: index})
	}
	wantWaiting(t, b, ids...)
	wantReady(t, b, []int{0}, want...)
	wantWaiting(t, b)
}

// P1402: there is room again for whom is Ready, and behind a Clear; an id may be asked anew when it waits no more.
func TestAskAgain(t *testing.T) {
	b := made(t, 0)
	for round := range 3 {
		for id := range room {
			ask(t, b, id, round, round+id%2)
		}
		if e := b.Ask(room, 0, 0); e != api.ErrFull {
			t.Fatalf("a full Book: error %d", e)
		}
		hear(t, b, 1, round)
		if l := b.Ready([]int{0, 1}); len(l) != room/2 {
			t.Fatal(round, l)
		}
		if e := b.Ask(1, 0, 0); e != api.ErrThere {
			t.Fatalf("one that still waits: error %d", e)
		}
		for id := 0; id < room; id += 2 {
			ask(t, b, id, 9, round+1)
		}
		if e := b.Ask(room, 0, 0); e != api.ErrFull {
			t.Fatalf("a full Book: error %d", e)
		}
		if l := b.Clear(); len(l) != room || l[0] != 1 || l[room-1] != room-2 {
			t.Fatal(round, l)
		}
	}
}

// P1402: who is heard is from 0 to 15, in a round from 0 on; what is refused is not heard.
func TestHeardErrors(t *testing.T) {
	b := made(t, 0)
	ask(t, b, 1, 1, 0)
	for _, from := range []int{-1, -16, 16, 17, 31, 32, 1 << 40, lowest, lowest + 1, highest} {
		for _, round := range []int{lowest, -1, 0, 1, highest} {
			if e := b.Heard(from, round); e != api.ErrArg {
				t.Errorf("Heard(%d, %d): error %d", from, round, e)
			}
		}
		wantReady(t, b, []int{0, from})
	}
	for from := range 16 {
		for _, round := range []int{lowest, lowest + 1, -2, -1} {
			if e := b.Heard(from, round); e != api.ErrArg {
				t.Errorf("Heard(%d, %d): error %d", from, round, e)
			}
		}
	}
	wantReady(t, b, []int{0, 1, 2})
	for from := range 16 {
		for _, round := range []int{0, 1, highest} {
			hear(t, b, from, round)
		}
	}
	wantReady(t, b, []int{0, 1, 2}, reads.Ready{ID: 1, Index: 1})
}

// P1402: of rounds the greatest one stands, in whatever order they come.
func TestHeardGreatest(t *testing.T) {
	for _, rounds := range [][]int{{5}, {5, 4}, {4, 5}, {0, 5, 0}, {5, 5}, {1, 3, 5, 2, 0}} {
		b := made(t, 2)
		for _, round := range rounds {
			hear(t, b, 7, round)
		}
		if e := b.Heard(7, -1); e != api.ErrArg {
			t.Error(e)
		}
		for round := range 9 {
			ask(t, b, round, 10*round, round)
		}
		var want []reads.Ready
		for round := range 6 {
			want = append(want, reads.Ready{ID: round, Index: 10 * round})
		}
		wantReady(t, b, []int{2, 7}, want...)
		wantWaiting(t, b, 6, 7, 8)
	}
}

// P1402: of me nothing need be heard, and what is heard changes nothing.
func TestHeardOfMe(t *testing.T) {
	for me := range 16 {
		b := made(t, me)
		for _, round := range []int{-1, 0, 3, highest} {
			if round >= 0 {
				hear(t, b, me, round)
			}
			ask(t, b, 4, 9, 5)
			ask(t, b, 5, 8, highest)
			wantReady(t, b, []int{(me + 1) % 16})
			wantReady(t, b, []int{me, (me + 1) % 16})
			wantReady(t, b, []int{me}, reads.Ready{ID: 4, Index: 9}, reads.Ready{ID: 5, Index: 8})
		}
	}
}

// P1403: what waits is told in order, and nothing was heard any more.
func TestClear(t *testing.T) {
	b := made(t, 1)
	ask(t, b, 8, 1, 4)
	ask(t, b, 3, 1, 2)
	ask(t, b, 5, 1, 9)
	for from := range 16 {
		hear(t, b, from, 3)
	}
	wantReady(t, b, []int{0, 1, 2}, reads.Ready{ID: 3, Index: 1})
	for _, want := range [][]int{{8, 5}, nil} {
		if l := b.Clear(); len(l) != len(want) || len(l) == 2 && (l[0] != 8 || l[1] != 5) {
			t.Fatalf("Clear is %v, not %v", l, want)
		}
		wantWaiting(t, b)
		wantReady(t, b, []int{1})
	}
	ask(t, b, 8, 2, 0)
	wantReady(t, b, []int{0, 1, 2})
	wantReady(t, b, []int{0, 1})
	hear(t, b, 2, 0)
	wantReady(t, b, []int{0, 1, 2}, reads.Ready{ID: 8, Index: 2})
	ask(t, b, 9, 3, highest)
	wantReady(t, b, []int{1}, reads.Ready{ID: 9, Index: 3})
}

// P1403: what waits is told in the order in which it was asked, however often one looks.
func TestWaiting(t *testing.T) {
	b := made(t, 1)
	for _, id := range []int{9, 2, 7, 1} {
		ask(t, b, id, id, 10-id)
	}
	for range 5 {
		wantWaiting(t, b, 9, 2, 7, 1)
		wantReady(t, b, []int{1, 2})
	}
	hear(t, b, 2, 3)
	wantReady(t, b, []int{1, 2}, reads.Ready{ID: 9, Index: 9}, reads.Ready{ID: 7, Index: 7})
	wantWaiting(t, b, 2, 1)
	ask(t, b, 7, 0, 20)
	wantWaiting(t, b, 2, 1, 7)
}
