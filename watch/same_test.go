package watch_test

import (
	"bytes"
	"slices"
	"testing"

	"hustings/watch"
)

// wantSame: and the same in the other order (P2003), and nothing of one and the same (P2004).
func wantSame(t *testing.T, a, b [][]byte, from, other, want int) {
	t.Helper()
	if n := watch.Same(a, b, from, other); n != want {
		t.Fatalf("%q from %d, %q from %d: %d, not %d", a, from, b, other, n, want)
	}
	if n := watch.Same(b, a, other, from); n != want {
		t.Fatalf("%q from %d, %q from %d: %d, not %d as in the other order", b, other, a, from, n, want)
	}
	if x, y := watch.Same(a, a, from, from), watch.Same(b, b, other, other); x != -1 || y != -1 {
		t.Fatalf("%q from %d, %q from %d, and themselves: %d, %d", a, from, b, other, x, y)
	}
}

// P2002: the least number at which both have a record, and they differ.
func TestSame(t *testing.T) {
	abc := texts("a", "b", "c")
	wantSame(t, abc, abc, 0, 0, -1)
	wantSame(t, abc, texts("a", "b", "d"), 0, 0, 2)
	wantSame(t, abc, texts("x", "b", "x"), 0, 0, 0)
	wantSame(t, abc, texts("a", "x", "x"), 0, 0, 1)
	wantSame(t, abc, texts("a", "bb", "c"), 7, 7, 8)
	wantSame(t, abc, texts("a", "", "c"), 7, 7, 8)
	// One has more than the other one, ahead or behind.
	wantSame(t, abc, texts("a"), 0, 0, -1)
	wantSame(t, abc, texts("b", "c", "d"), 4, 5, -1)
	wantSame(t, abc, texts("b", "x", "d"), 4, 5, 6)
	wantSame(t, abc, texts("c", "d"), 4, 6, -1)
	wantSame(t, abc, texts("d", "d"), 4, 6, 6)
	wantSame(t, abc, texts("b"), 4, 5, -1)
	wantSame(t, abc, texts("c"), 4, 5, 5)
	// They have no number in common.
	wantSame(t, abc, abc, 4, 7, -1)
	wantSame(t, abc, abc, 4, 8, -1)
	wantSame(t, abc, abc, 4, 1000, -1)
	wantSame(t, abc, abc, 4, 5, 5)
	// None, and records without bytes, by nil or not.
	wantSame(t, nil, nil, 0, 0, -1)
	wantSame(t, nil, abc, 0, 0, -1)
	wantSame(t, [][]byte{}, abc, 0, 0, -1)
	wantSame(t, [][]byte{nil, {}}, [][]byte{{}, nil}, 3, 3, -1)
	wantSame(t, [][]byte{nil, {}}, [][]byte{{}, {0}}, 3, 3, 4)
}

// P2001, P2002: numbers at both ends of int are what they are; behind the highest one there is none.
func TestSameAtTheEnds(t *testing.T) {
	abc, xyz := texts("a", "b", "c"), texts("x", "y", "z")
	for _, apart := range [][2]int{{lowest, highest}, {lowest, 0}, {-1, highest}, {0, highest}, {lowest, -1}, {lowest, lowest + 3}, {highest - 3, highest}, {-3, 0}} {
		wantSame(t, abc, xyz, apart[0], apart[1], -1)
		wantSame(t, nil, xyz, apart[0], apart[1], -1)
		wantSame(t, abc, nil, apart[0], apart[1], -1)
	}
	wantSame(t, abc, xyz, lowest, lowest, lowest)
	wantSame(t, abc, xyz, lowest, lowest+2, lowest+2)
	wantSame(t, abc, texts("c"), lowest, lowest+2, -1)
	wantSame(t, abc, xyz, -5, -5, -5)
	wantSame(t, abc, xyz, -5, -3, -3)
	wantSame(t, abc, texts("b", "c", "z"), -2, -1, -1)
	wantSame(t, abc, texts("b", "z", "z"), -2, -1, 0)
	wantSame(t, abc, texts("c", "z"), -2, 0, -1)
	wantSame(t, abc, texts("z"), -2, 0, 0)
	wantSame(t, abc, xyz, highest, highest, highest)
	wantSame(t, abc, xyz, highest-2, highest, highest)
	wantSame(t, abc, texts("c", "z"), highest-2, highest, -1)
	wantSame(t, abc, texts("a", "b", "z"), highest-2, highest-2, highest)
	wantSame(t, abc, texts("a", "b", "z"), highest-1, highest-1, -1)
	wantSame(t, abc, texts("a", "z"), highest, highest, -1)
}

// unlike: Same by P2002's words.
func unlike(a, b [][]byte, from, other int) int {
	numbers := map[int][]byte{}
	for i, record := range a {
		numbers[from+i] = record
	}
	for i, record := range b {
		if one, both := numbers[other+i]; both && !bytes.Equal(one, record) {
			return other + i
		}
	}
	return -1
}

// P2002, P2003, P2004: all pairs of rows of up to four records of two texts, from all near numbers, against the chapter's words.
func TestSameOfAllSmall(t *testing.T) {
	rows := [][][]byte{nil}
	for i := 0; len(rows[i]) < 4; i++ {
		rows = append(rows, append(slices.Clone(rows[i]), []byte("a")), append(slices.Clone(rows[i]), []byte("b")))
	}
	found := 0
	for _, a := range rows {
		for _, b := range rows {
			for from := range 6 {
				for other := range 6 {
					want := unlike(a, b, from, other)
					wantSame(t, a, b, from, other, want)
					if want >= 0 {
						found++
					}
				}
			}
		}
	}
	if found < 1000 {
		t.Error(found)
	}
}

// P2002: of many records the last one is looked at, too.
func TestSameOfMany(t *testing.T) {
	a := slices.Repeat(texts("a", "b"), 50000)
	b := slices.Clone(a[1000:])
	wantSame(t, a, b, 10, 1010, -1)
	b[len(b)-1] = []byte("x")
	wantSame(t, a, b, 10, 1010, 10+99999)
}
