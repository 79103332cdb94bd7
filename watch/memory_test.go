package watch_test

import (
	"fmt"
	"slices"
	"testing"

	"hustings/api"
	"hustings/entries"
	"hustings/watch"
)

// roomy: a list, with more behind it in the same room.
func roomy[T any](l []T, behind ...T) []T {
	return append(slices.Clone(l), behind...)[:len(l)]
}

// whole: a View, its entries and their data, each with more behind it.
func whole(v entries.View) entries.View {
	v.L = roomy(v.L, row(len(v.L), 9, 9)...)
	for i := range v.L {
		v.L[i].Data = roomy(v.L[i].Data, 7, 8)
	}
	return v
}

// all: all that stands in a View, and in the room behind it.
func all(v entries.View) string {
	s := fmt.Append(nil, v.Base, v.Term, len(v.L))
	for _, x := range v.L[:cap(v.L)] {
		s = fmt.Append(s, x, x.Data[:cap(x.Data)])
	}
	return string(s)
}

// P2001: what is handed in is not changed, nor the room behind it, and each call answers the same again.
func TestArgumentsAreLeft(t *testing.T) {
	v := whole(with(lists(t, []int{0}, nil, []int{0, 1}, []int{3}), 2, "abc"))
	w := whole(with(lists(t, []int{0}, nil, []int{0, 1}, []int{4}), 2, "abc"))
	base := roomy([]int{0}, 5, 6)
	a, b := roomy(texts("a", "b"), texts("y", "z")...), roomy(texts("b", "x"), texts("y", "z")...)
	l := roomy([]watch.Seen{leads(0, 1), leads(0, 2)}, leads(1, 2))
	wasV, wasW := all(v), all(w)
	for range 2 {
		got := []int{
			watch.Leaders(l), watch.Leaders(l[:3]),
			watch.Match(v, w), watch.Agree(seen(4, v), seen(5, w)), watch.Agree(seen(3, v), seen(5, w)),
			watch.Steps(v, base), watch.Steps(w, base[:3]),
			watch.Same(a, b, 0, 1), watch.Same(a, b, 0, 0),
		}
		if want := []int{-1, 2, 4, 4, 0, 4, 1, -1, 0}; !slices.Equal(got, want) {
			t.Errorf("%v, not %v", got, want)
		}
		if all(v) != wasV || all(w) != wasW {
			t.Error("a View is changed")
		}
		if !slices.Equal(base[:3], []int{0, 5, 6}) || l[0].ID != 0 || l[1].Term != 2 || l[:3][2].ID != 1 {
			t.Error(base[:3], l[:3])
		}
		if s := fmt.Sprintf("%s%s", a[:4], b[:4]); s != "[a b y z][b x y z]" {
			t.Error(s)
		}
	}
}

// P2001: nothing is kept: where what was handed in changes, the next answer does.
func TestNothingIsKept(t *testing.T) {
	v, w := view(0, 1, 1, 2), view(0, 1, 1, 2)
	for range 2 {
		v.L[1] = api.Entry{Term: 1, Index: 2, Kind: api.Command}
		if n := watch.Match(v, w); n != 2 {
			t.Error(n)
		}
		v.L[1] = w.L[1]
		if n := watch.Match(v, w); n != 0 {
			t.Error(n)
		}
		l := []watch.Seen{leads(0, 1), leads(1, 1)}
		if n := watch.Leaders(l); n != 1 {
			t.Error(n)
		}
		if n := watch.Leaders(l[1:]); n != -1 {
			t.Error(n)
		}
	}
}
