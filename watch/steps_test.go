package watch_test

import (
	"math/bits"
	"math/rand"
	"slices"
	"testing"

	"hustings/api"
	"hustings/entries"
	"hustings/watch"
)

// P2002: the first entry whose list is no step from the one ahead of it.
func TestSteps(t *testing.T) {
	for i, c := range []struct {
		v    entries.View
		base []int
		want int
	}{
		{view(0), []int{0}, 0},
		{view(0), nil, 0},
		{view(0, 1, 1, 2), []int{0, 1}, 0},
		{lists(t, []int{0}), []int{0}, 0},
		{lists(t, []int{0, 1}), []int{0}, 0},
		{lists(t, []int{0}), []int{0, 1}, 0},
		{lists(t, []int{1}), []int{0}, 1},
		{lists(t, []int{0, 1, 2}), []int{0}, 1},
		{lists(t, []int{0}), []int{0, 1, 2}, 1},
		{lists(t, []int{0, 2}), []int{0, 1}, 1},
		{lists(t, []int{0}, []int{0, 1}, []int{0, 1, 2}, []int{0, 2}, []int{2}), []int{0}, 0},
		{lists(t, []int{0}, []int{0, 1}, []int{0, 1, 2}, []int{1}), []int{0}, 4},
		// The first one of several, held against the one ahead of it, not against base.
		{lists(t, []int{0, 1}, []int{2, 3}, []int{0, 1}), []int{0}, 2},
		{lists(t, []int{0, 1}, []int{0, 1, 2}, []int{0}), []int{0}, 3},
		// Entries of other kinds may stand between.
		{lists(t, nil, []int{0, 1}, nil, nil, []int{0, 1, 2}, nil), []int{0}, 0},
		{lists(t, nil, []int{0, 1}, nil, nil, []int{0, 2}, nil), []int{0}, 5},
		{lists(t, nil, nil, []int{5}), []int{0}, 3},
		{with(lists(t, []int{0}, nil, []int{0, 1}), 2, "\x01\x01\x01\x05"), []int{0}, 0},
		// All servers that may be.
		{lists(t, []int{0, 1, 2, 3, 4, 5, 15}), []int{0, 1, 2, 3, 4, 5}, 0},
		{lists(t, []int{0, 1, 2, 3, 4, 5, 15}), []int{0, 1, 2, 3, 4, 5, 14}, 1},
	} {
		if n := watch.Steps(c.v, c.base); n != c.want {
			t.Errorf("%d: %d, not %d", i, n, c.want)
		}
	}
}

// P2002: of a base that may not be the first list counts as fine, the next one is held against it.
func TestStepsOfWrongBase(t *testing.T) {
	for _, base := range [][]int{nil, {}, {-1}, {-1, 0}, {16}, {0, 16}, {1, 0}, {0, 0}, {3, 3}, {0, 1, 2, 3, 4, 5, 6, 7}, {lowest, highest}, make([]int, 100000)} {
		for i, c := range []struct {
			v    entries.View
			want int
		}{
			{view(0), 0},
			{lists(t, []int{7, 9}), 0},
			{lists(t, []int{7, 9}, []int{7, 9}, []int{9}), 0},
			{lists(t, []int{7, 9}, []int{8}), 2},
			{lists(t, nil, []int{7, 9}, nil, []int{8}), 4},
		} {
			if n := watch.Steps(c.v, base); n != c.want {
				t.Errorf("base %v, %d: %d, not %d", base[:min(len(base), 9)], i, n, c.want)
			}
		}
	}
}

// P2002: an index is told, not a place; the log may be as long as one may be.
func TestStepsAtLimits(t *testing.T) {
	rows := slices.Repeat([][]int{{0, 1, 2}, {0, 2}}, api.MaxLog/2)
	v := lists(t, rows...)
	if n := watch.Steps(v, []int{0, 1}); n != 0 {
		t.Error(n)
	}
	rows[api.MaxLog-1] = []int{0}
	for _, base := range []int{0, 5, topBase} {
		v := lists(t, rows...)
		v.Base = base
		for i := range v.L {
			v.L[i].Index += base
		}
		if n := watch.Steps(v, []int{0, 1}); n != base+api.MaxLog {
			t.Error(base, n)
		}
	}
}

// P2001: a View that may not be is as an empty one.
func TestStepsOfWrongViews(t *testing.T) {
	if n := watch.Steps(lists(t, []int{0}, []int{0, 1, 2}), []int{0}); n != 2 {
		t.Error(n)
	}
	for _, v := range wrongViews(t) {
		for _, base := range [][]int{nil, {0}, {7}} {
			if n := watch.Steps(v, base); n != 0 {
				t.Error(told(v), base, n)
			}
		}
	}
}

// listOf: the servers whose bits are set.
func listOf(set uint) []int {
	var l []int
	for id := range api.MaxID {
		if set>>id&1 == 1 {
			l = append(l, id)
		}
	}
	return l
}

// jumps: Steps by P2002's words, of lists by their bits (0: an entry of another kind; as base: one that may not be).
func jumps(sets []uint, base uint) int {
	ahead := base
	for i, set := range sets {
		if set == 0 {
			continue
		}
		if ahead != 0 && bits.OnesCount(ahead^set) > 1 {
			return i + 1
		}
		ahead = set
	}
	return 0
}

func wantSteps(t *testing.T, sets []uint, base uint) int {
	t.Helper()
	var rows [][]int
	for _, set := range sets {
		rows = append(rows, listOf(set))
	}
	want := jumps(sets, base)
	if n := watch.Steps(lists(t, rows...), listOf(base)); n != want {
		t.Fatalf("%v from %v: %d, not %d", rows, listOf(base), n, want)
	}
	return want
}

// P2002: all rows of two entries with lists of four servers, from each base, against the chapter's words.
func TestStepsOfAllSmall(t *testing.T) {
	for i := range uint(16 * 16 * 16) {
		wantSteps(t, []uint{i % 16, i / 16 % 16}, i/256)
	}
}

// P2002: walks by chance over all servers, with a jump here and there, against the chapter's words.
func TestStepsByChance(t *testing.T) {
	found := 0
	for seed := range int64(3000) {
		r := rand.New(rand.NewSource(seed))
		base := uint(1) << r.Intn(api.MaxID)
		set, sets := base, []uint(nil)
		for range 1 + r.Intn(20) {
			next := set
			for range 1 + r.Intn(20)/19 {
				next ^= 1 << r.Intn(api.MaxID)
			}
			if n := bits.OnesCount(next); n < 1 || n > api.MaxServers || r.Intn(3) == 0 {
				sets = append(sets, 0)
				continue
			}
			set = next
			sets = append(sets, set)
		}
		if wantSteps(t, sets, base) != 0 {
			found++
		}
	}
	if found < 300 || found > 2700 {
		t.Error(found)
	}
}
