package watch_test

import (
	"testing"

	"hustings/entries"
	"hustings/watch"
)

func leads(id, term int) watch.Seen {
	return watch.Seen{ID: id, Term: term, Leads: true}
}

func follows(id, term int) watch.Seen {
	return watch.Seen{ID: id, Term: term}
}

// P2002: the first place at which one leads in a term in which another one led; -1.
func TestLeaders(t *testing.T) {
	for i, c := range []struct {
		l    []watch.Seen
		want int
	}{
		{nil, -1},
		{[]watch.Seen{}, -1},
		{[]watch.Seen{{}}, -1},
		{[]watch.Seen{{}, {}, {}}, -1},
		{[]watch.Seen{leads(0, 1)}, -1},
		{[]watch.Seen{leads(0, 1), leads(1, 1)}, 1},
		{[]watch.Seen{leads(0, 1), leads(1, 2)}, -1},
		{[]watch.Seen{leads(0, 1), follows(1, 1)}, -1},
		{[]watch.Seen{follows(0, 1), leads(1, 1)}, -1},
		{[]watch.Seen{follows(0, 1), follows(1, 1)}, -1},
		// One and the same leads in its term as often as it is seen.
		{[]watch.Seen{leads(0, 1), leads(0, 1), leads(0, 1)}, -1},
		{[]watch.Seen{leads(0, 1), leads(0, 1), leads(2, 1)}, 2},
		{[]watch.Seen{leads(0, 1), leads(0, 2), leads(0, 3)}, -1},
		// The first place, not the last one, nor that of the one who led ahead of it.
		{[]watch.Seen{leads(0, 1), leads(1, 1), leads(2, 1)}, 1},
		{[]watch.Seen{leads(0, 1), leads(1, 1), leads(0, 1)}, 1},
		{[]watch.Seen{leads(0, 2), leads(0, 1), leads(1, 1), leads(1, 2)}, 2},
		{[]watch.Seen{leads(0, 1), leads(1, 2), leads(2, 3), leads(0, 2), leads(0, 3)}, 3},
		// Between them others may stand, of other terms, or who don't lead.
		{[]watch.Seen{leads(3, 1), follows(4, 1), leads(4, 2), follows(5, 1), leads(5, 3), leads(6, 1)}, 5},
		{[]watch.Seen{leads(3, 7), leads(4, 1), leads(5, 5), leads(3, 6), leads(5, 7)}, 4},
		// Any numbers.
		{[]watch.Seen{leads(0, 0), leads(1, 0)}, 1},
		{[]watch.Seen{leads(-1, -5), leads(0, -5)}, 1},
		{[]watch.Seen{leads(0, -5), leads(-1, -5)}, 1},
		{[]watch.Seen{leads(-1, 3), leads(-1, 3)}, -1},
		{[]watch.Seen{leads(lowest, highest), leads(highest, highest)}, 1},
		{[]watch.Seen{leads(lowest, highest), leads(highest, lowest)}, -1},
	} {
		if place := watch.Leaders(c.l); place != c.want {
			t.Errorf("%d: %d, not %d", i, place, c.want)
		}
	}
}

// P2002: what else was seen does not matter.
func TestLeadersAlone(t *testing.T) {
	a, b := leads(0, 1), leads(0, 1)
	a.Commit, a.View = 7, view(0, 1, 1)
	b.Commit, b.View = -7, view(-9, 3)
	if place := watch.Leaders([]watch.Seen{a, b}); place != -1 {
		t.Error(place)
	}
	b.ID = 1
	if place := watch.Leaders([]watch.Seen{a, b}); place != 1 {
		t.Error(place)
	}
	b.View, b.Commit = a.View, a.Commit
	if place := watch.Leaders([]watch.Seen{a, b}); place != 1 {
		t.Error(place)
	}
	if place := watch.Leaders([]watch.Seen{{View: entries.View{}, Commit: 1}, b}); place != -1 {
		t.Error(place)
	}
}

// twoIn: Leaders by P2002's words.
func twoIn(l []watch.Seen) int {
	for place, s := range l {
		for _, was := range l[:place] {
			if s.Leads && was.Leads && s.Term == was.Term && s.ID != was.ID {
				return place
			}
		}
	}
	return -1
}

// P2002: all rows of up to five servers of three IDs in two terms, who lead or don't.
func TestLeadersOfAllSmall(t *testing.T) {
	found := 0
	var further func(l []watch.Seen)
	further = func(l []watch.Seen) {
		want := twoIn(l)
		if place := watch.Leaders(l); place != want {
			t.Fatalf("%v: %d, not %d", l, place, want)
		}
		if want >= 0 {
			found++
		}
		if len(l) == 5 {
			return
		}
		for i := range 12 {
			further(append(l[:len(l):len(l)], watch.Seen{ID: i % 3, Term: i / 3 % 2, Leads: i >= 6}))
		}
	}
	further(nil)
	if found < 1000 {
		t.Error(found)
	}
}

// P2002: of many, the one who ends it is the last.
func TestLeadersOfMany(t *testing.T) {
	var l []watch.Seen
	for i := range 100000 {
		l = append(l, leads(i%7, i/3*7+i%7))
	}
	if place := watch.Leaders(l); place != -1 {
		t.Error(place)
	}
	l = append(l, leads(8, l[0].Term))
	if place := watch.Leaders(l); place != len(l)-1 {
		t.Error(place)
	}
}
