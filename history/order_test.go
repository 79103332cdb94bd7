package history_test

import (
	"math/rand"
	"slices"
	"testing"

	"hustings/history"
)

// P1903: which calls are in the Order, and what is ahead of what.
func TestOrder(t *testing.T) {
	p, g, r := put(0, 1, 2, 0, "x"), get(0, 1, 2), trim(0, 1, 2, 0, 0)
	later := func(c history.Call) history.Call {
		c.Begin++
		c.End++
		return c
	}
	for i, c := range []struct {
		l    []history.Call
		want []int
	}{
		{nil, nil},
		{[]history.Call{}, nil},
		// Answered ones are in it, of any At; others only where they are Puts and Trims that count.
		{[]history.Call{p, g, r}, []int{0, 2, 1}},
		{[]history.Call{lost(p), lost(g), lost(r)}, nil},
		{[]history.Call{lost(at(1, p)), lost(at(1, g)), lost(at(1, r))}, []int{0, 2}},
		{[]history.Call{lost(at(1, g)), at(2, p), lost(at(moments, g)), lost(at(moments, p)), lost(r)}, []int{1, 3}},
		// By At.
		{[]history.Call{at(3, p), at(2, p), at(1, p), at(0, p)}, []int{3, 2, 1, 0}},
		{[]history.Call{at(3, p), at(2, r), at(1, g), at(0, g)}, []int{3, 2, 1, 0}},
		{[]history.Call{at(1, later(p)), at(2, p)}, []int{0, 1}},
		{[]history.Call{at(moments, p), at(0, g), at(moments-1, p), lost(at(moments, p))}, []int{1, 2, 0, 3}},
		// Of one At Puts and Trims ahead of Gets, whenever they began.
		{[]history.Call{at(1, g), at(1, later(p))}, []int{1, 0}},
		{[]history.Call{at(1, g), at(1, later(r))}, []int{1, 0}},
		{[]history.Call{at(1, g), lost(at(1, later(r))), at(1, p)}, []int{2, 1, 0}},
		// Else by Begin, a Trim as a Put.
		{[]history.Call{at(1, later(p)), at(1, r)}, []int{1, 0}},
		{[]history.Call{at(1, later(r)), at(1, p)}, []int{1, 0}},
		{[]history.Call{at(1, later(g)), at(1, g)}, []int{1, 0}},
		{[]history.Call{at(1, later(later(p))), at(1, later(p)), lost(at(1, p))}, []int{2, 1, 0}},
		// Else by number.
		{[]history.Call{at(1, r), at(1, p), lost(at(1, r)), at(1, p)}, []int{0, 1, 2, 3}},
		{[]history.Call{g, g, g}, []int{0, 1, 2}},
	} {
		if got := history.Order(c.l); !slices.Equal(got, c.want) || !slices.Equal(claimed(c.l), c.want) {
			t.Errorf("%d: %v is in the order %v, not %v", i, c.l, got, c.want)
		}
	}
}

// P1903: Order asks no more than what it says, so that calls that may not be have one, too.
func TestOrderOfAny(t *testing.T) {
	l := []history.Call{
		{Answered: true, Kind: history.Get, At: highest, Begin: lowest},
		{Answered: true, Kind: history.Get, At: highest, Begin: highest},
		{Answered: true, Kind: history.Put, At: highest, Begin: highest},
		{Answered: true, Kind: history.Trim, At: lowest, Client: -1},
		{Kind: history.Put, At: lowest},
		{Kind: history.Trim, At: -1},
		{Kind: 4, At: 1},
		{Kind: 0, At: 1},
		{Kind: history.Trim, At: 1, Client: -1},
	}
	if got := history.Order(l); !slices.Equal(got, []int{3, 8, 2, 0, 1}) {
		t.Error(got)
	}
	var more []history.Call
	for k := range 5000 {
		more = append(more, at(5000-k, put(0, 1, 2, 0, "x")))
	}
	got := history.Order(more)
	slices.Reverse(got)
	if len(got) != 5000 || !slices.IsSorted(got) {
		t.Error(got)
	}
}

// P1903: Order of calls by chance, against the chapter's words.
func TestOrderByChance(t *testing.T) {
	for seed := range int64(5000) {
		r := rand.New(rand.NewSource(seed))
		l := some(r, r.Intn(30), 1+r.Intn(9))
		if got, want := history.Order(l), claimed(l); !slices.Equal(got, want) {
			t.Fatalf("seed %d: %v is in the order %v, not %v", seed, l, got, want)
		}
	}
}
