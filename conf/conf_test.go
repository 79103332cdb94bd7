package conf_test

import (
	"math/bits"
	"math/rand"
	"slices"
	"testing"

	"hustings/api"
	"hustings/conf"
	"hustings/vote"
)

const (
	highest = 1<<63 - 1
	lowest  = -1 << 63
)

// listOf: the numbers whose bits are set, rising.
func listOf(set uint) []int {
	var l []int
	for id := range 64 {
		if set>>id&1 == 1 {
			l = append(l, id)
		}
	}
	return l
}

// rightSets: all lists that may be, as sets of bits, of servers below n.
func rightSets(n int) []uint {
	var sets []uint
	for set := range uint(1) << n {
		if c := bits.OnesCount(set); c >= 1 && c <= api.MaxServers {
			sets = append(sets, set)
		}
	}
	return sets
}

// numbers: n of them, from 0 on.
func numbers(n int) []int {
	l := make([]int, n)
	for i := range l {
		l[i] = i
	}
	return l
}

// wrongLists: lists that may not be.
func wrongLists() [][]int {
	return [][]int{
		nil,
		{},
		{-1},
		{lowest},
		{api.MaxID},
		{highest},
		{-1, 0, 1},
		{14, 15, 16},
		{0, highest},
		{lowest, 0},
		{1, 1},
		{0, 1, 1},
		{2, 1},
		{1, 2, 4, 3},
		{5, 1, 2, 3},
		{0, 1, 2, 3, 4, 5, 6, 7},
		{8, 9, 10, 11, 12, 13, 14, 15},
		{1, 1, 1, 1, 1, 1, 1, 1},
		numbers(16),
		numbers(100000),
		make([]int, 100000),
	}
}

// head: of a list that may be long, so that a failure tells little.
func head(l []int) []int {
	return l[:min(len(l), 20)]
}

// P1102: a list that may be has 1 to MaxServers numbers from 0 to MaxID - 1, rising.
func TestRight(t *testing.T) {
	for _, l := range [][]int{{0}, {15}, {0, 15}, {1, 3}, {0, 1, 2, 3, 4, 5, 6}, {9, 10, 11, 12, 13, 14, 15}} {
		if !conf.Right(l) {
			t.Errorf("Right(%v): false", l)
		}
	}
	for _, l := range wrongLists() {
		if conf.Right(l) {
			t.Errorf("Right of %d numbers, %v ..: true", len(l), head(l))
		}
	}
}

// P1102: all sets of servers, rising and in another order.
func TestRightOfAllSets(t *testing.T) {
	for set := range uint(1) << api.MaxID {
		l := listOf(set)
		want := len(l) >= 1 && len(l) <= api.MaxServers
		if conf.Right(l) != want {
			t.Fatalf("Right(%v): %t", l, !want)
		}
		slices.Reverse(l)
		if conf.Right(l) != (len(l) == 1) {
			t.Fatalf("Right(%v): %t", l, len(l) != 1)
		}
	}
}

// P1101, P1102: Has is asked of any list, and of any number.
func TestHas(t *testing.T) {
	long := numbers(100000)
	for _, c := range []struct {
		l    []int
		id   int
		want bool
	}{
		{nil, 0, false},
		{[]int{}, 0, false},
		{[]int{0}, 0, true},
		{[]int{1, 3}, 0, false},
		{[]int{1, 3}, 1, true},
		{[]int{1, 3}, 2, false},
		{[]int{1, 3}, 3, true},
		{[]int{1, 3}, 4, false},
		{[]int{1, 3}, -1, false},
		{[]int{9, 1, 5}, 1, true},
		{[]int{9, 1, 5}, 5, true},
		{[]int{9, 1, 5}, 9, true},
		{[]int{9, 1, 5}, 2, false},
		{[]int{4, 4, 4}, 4, true},
		{[]int{-1, highest, lowest}, lowest, true},
		{[]int{-1, highest, lowest}, highest, true},
		{[]int{-1, highest, lowest}, -1, true},
		{[]int{-1, highest, lowest}, 0, false},
		{[]int{0, 1, 2, 3, 4, 5, 6, 7, 16}, 16, true},
		{long, 99999, true},
		{long, 100000, false},
	} {
		if got := conf.Has(c.l, c.id); got != c.want {
			t.Errorf("Has(%v .., %d): %t", head(c.l), c.id, got)
		}
	}
}

// P1102: Quorum goes by the length alone, of lists that may not be, too.
func TestQuorum(t *testing.T) {
	for n, want := range []int{1, 1, 2, 2, 3, 3, 4, 4, 5, 5} {
		if got := conf.Quorum(make([]int, n)); got != want {
			t.Errorf("Quorum of %d: %d", n, got)
		}
		if got := conf.Quorum(numbers(n)); got != want {
			t.Errorf("Quorum of %d: %d", n, got)
		}
	}
	if got := conf.Quorum(nil); got != 1 {
		t.Errorf("Quorum of none: %d", got)
	}
	if got := conf.Quorum(make([]int, 100001)); got != 50001 {
		t.Errorf("Quorum of 100001: %d", got)
	}
}

// P1102: Quorum is the least number of a list's servers with which one has won.
func TestQuorumWins(t *testing.T) {
	for _, set := range rightSets(8) {
		l := listOf(set)
		q := conf.Quorum(l)
		if !vote.Won(l, l[:q]) || vote.Won(l, l[:q-1]) {
			t.Fatalf("Quorum(%v): %d", l, q)
		}
	}
}

func wantChange(t *testing.T, l []int, add bool, id int, want []int, wantE api.Errno) {
	t.Helper()
	got, e := conf.Change(l, add, id)
	if !slices.Equal(got, want) || e != wantE {
		t.Fatalf("Change(%v .., %t, %d): %v, %d; want %v, %d", head(l), add, id, got, e, want, wantE)
	}
}

// P1102: lists with one more and one less, and what is refused; an argument that may not be ahead of a change that may not be.
func TestChange(t *testing.T) {
	full := []int{0, 1, 2, 3, 4, 5, 6}
	for _, c := range []struct {
		l    []int
		add  bool
		id   int
		want []int
		e    api.Errno
	}{
		{[]int{1, 3}, true, 0, []int{0, 1, 3}, api.OK},
		{[]int{1, 3}, true, 2, []int{1, 2, 3}, api.OK},
		{[]int{1, 3}, true, 4, []int{1, 3, 4}, api.OK},
		{[]int{1, 3}, true, 15, []int{1, 3, 15}, api.OK},
		{[]int{0, 1, 2, 4, 5, 6}, true, 3, full, api.OK},
		{[]int{1, 3}, true, 1, nil, api.ErrServer},
		{[]int{1, 3}, true, 3, nil, api.ErrServer},
		{full, true, 7, nil, api.ErrServer},
		{full, true, 6, nil, api.ErrServer},
		{full, true, 16, nil, api.ErrArg},
		{[]int{1, 3, 5}, false, 1, []int{3, 5}, api.OK},
		{[]int{1, 3, 5}, false, 3, []int{1, 5}, api.OK},
		{[]int{1, 3, 5}, false, 5, []int{1, 3}, api.OK},
		{[]int{0, 15}, false, 0, []int{15}, api.OK},
		{full, false, 6, []int{0, 1, 2, 3, 4, 5}, api.OK},
		{full, false, 7, nil, api.ErrServer},
		{[]int{1, 3}, false, 2, nil, api.ErrServer},
		{[]int{1}, false, 1, nil, api.ErrServer},
		{[]int{1}, false, 2, nil, api.ErrServer},
		{[]int{1}, true, -1, nil, api.ErrArg},
		{[]int{1}, false, -1, nil, api.ErrArg},
		{[]int{1}, true, 16, nil, api.ErrArg},
		{[]int{1}, false, 16, nil, api.ErrArg},
		{[]int{1}, true, highest, nil, api.ErrArg},
		{[]int{1}, false, lowest, nil, api.ErrArg},
	} {
		wantChange(t, c.l, c.add, c.id, c.want, c.e)
	}
}

// P1102: of a list that may not be no change is told.
func TestChangeOfWrongLists(t *testing.T) {
	for _, l := range wrongLists() {
		for id := -2; id < api.MaxID+2; id++ {
			wantChange(t, l, true, id, nil, api.ErrArg)
			wantChange(t, l, false, id, nil, api.ErrArg)
		}
	}
}

// P1102, P1105: all lists that may be, by all servers: what comes and goes, and the way back.
func TestChangeOfAllListsAndBack(t *testing.T) {
	for _, set := range rightSets(api.MaxID) {
		l := listOf(set)
		for id := range api.MaxID {
			in := set>>id&1 == 1
			wantChange(t, l, in, id, nil, api.ErrServer)
			other := listOf(set ^ 1<<id)
			if len(other) < 1 || len(other) > api.MaxServers {
				wantChange(t, l, !in, id, nil, api.ErrServer)
				continue
			}
			wantChange(t, l, !in, id, other, api.OK)
			wantChange(t, other, in, id, l, api.OK)
		}
	}
}

// P1101: a changed list is memory of its own, and what was handed in stays, with the room behind it.
func TestChangeSharesNothing(t *testing.T) {
	for _, add := range []bool{true, false} {
		for id := range api.MaxID {
			room := []int{2, 5, 9, 77, 78}
			l := room[:3]
			got, _ := conf.Change(l, add, id)
			again, _ := conf.Change(l, add, id)
			got = got[:cap(got)]
			for i := range got {
				got[i] = -5
			}
			if !slices.Equal(room, []int{2, 5, 9, 77, 78}) {
				t.Fatalf("Change(2 5 9, %t, %d) left %v", add, id, room)
			}
			if slices.Contains(again, -5) {
				t.Fatalf("two answers of Change(2 5 9, %t, %d) share memory", add, id)
			}
		}
	}
}

// P1102: the same list, or one server more or less; not one for another, and nothing of lists that may not be.
func TestBeside(t *testing.T) {
	for _, c := range []struct {
		a, b []int
		want bool
	}{
		{[]int{1}, []int{1}, true},
		{[]int{1}, []int{1, 2}, true},
		{[]int{1}, []int{0, 1}, true},
		{[]int{1, 2, 3}, []int{1, 3}, true},
		{[]int{0, 1, 2, 3, 4, 5, 6}, []int{0, 1, 2, 3, 4, 5, 6}, true},
		{[]int{0, 1, 2, 3, 4, 5, 6}, []int{1, 2, 3, 4, 5, 6}, true},
		{[]int{0, 15}, []int{0, 14, 15}, true},
		{[]int{1}, []int{2}, false},
		{[]int{1, 2}, []int{1, 3}, false},
		{[]int{1}, []int{1, 2, 3}, false},
		{[]int{1}, []int{2, 3}, false},
		{[]int{0, 1, 2, 3, 4, 5, 6}, []int{0, 1, 2, 3, 4, 5, 7}, false},
		{[]int{0, 1, 2, 3, 4, 5, 6}, []int{0, 1, 2, 3, 4, 5, 6, 7}, false},
		{[]int{15}, []int{15, 16}, false},
		{[]int{0}, []int{-1, 0}, false},
		{[]int{1, 2}, []int{2, 1}, false},
		{[]int{1}, []int{1, 1}, false},
		{[]int{1}, nil, false},
	} {
		if conf.Beside(c.a, c.b) != c.want || conf.Beside(c.b, c.a) != c.want {
			t.Errorf("Beside(%v, %v): %t, %t", c.a, c.b, conf.Beside(c.a, c.b), conf.Beside(c.b, c.a))
		}
	}
	for _, a := range wrongLists() {
		for _, b := range append(wrongLists(), []int{0}, []int{1, 2}) {
			if conf.Beside(a, b) || conf.Beside(b, a) {
				t.Fatalf("Beside(%v .., %v ..)", head(a), head(b))
			}
		}
	}
}

// P1102: any two lists of servers below 8, and any two at random.
func TestBesideOfManyLists(t *testing.T) {
	check := func(a, b uint) {
		want := bits.OnesCount(a^b) <= 1
		if got := conf.Beside(listOf(a), listOf(b)); got != want {
			t.Fatalf("Beside(%v, %v): %t", listOf(a), listOf(b), got)
		}
	}
	for _, a := range rightSets(8) {
		for _, b := range rightSets(8) {
			check(a, b)
		}
	}
	r := rand.New(rand.NewSource(11))
	sets := rightSets(api.MaxID)
	for range 50000 {
		check(sets[r.Intn(len(sets))], sets[r.Intn(len(sets))])
	}
}

// P1103: the examples, what is missing, what is too much, numbers below 0, and lists that may not be.
func TestNth(t *testing.T) {
	for _, c := range []struct {
		l, of []int
		want  int
	}{
		{nil, nil, 0},
		{nil, []int{4}, 0},
		{[]int{}, []int{-4, highest}, 0},
		{[]int{1}, nil, 0},
		{[]int{1}, []int{4}, 4},
		{[]int{1}, []int{-4}, -4},
		{[]int{1}, []int{4, 9, 9}, 4},
		{[]int{1, 2}, []int{4, 9}, 4},
		{[]int{1, 2}, []int{9}, 0},
		{[]int{1, 2}, []int{-9}, -9},
		{[]int{1, 2, 3}, []int{5, 9, 7}, 7},
		{[]int{1, 2, 3}, []int{4}, 0},
		{[]int{1, 2, 3}, []int{4, 6}, 4},
		{[]int{1, 2, 3}, []int{-5, -6}, -5},
		{[]int{1, 2, 3}, []int{-5}, 0},
		{[]int{1, 2, 3}, []int{1, 2, 3, 9, 9, 9}, 2},
		{[]int{1, 2, 3}, []int{7, 7, 7}, 7},
		{[]int{1, 2, 3, 4}, []int{9, 8, 7, 6}, 7},
		{[]int{1, 2, 3, 4}, []int{6, 7, 8, 9}, 7},
		{[]int{1, 2, 3, 4, 5}, []int{10, 50, 20, 40, 30}, 30},
		{[]int{1, 2, 3}, []int{lowest, highest, highest}, highest},
		{[]int{1, 2, 3}, []int{lowest, highest, lowest}, lowest},
		{[]int{1, 2, 3}, []int{lowest, -1, highest}, -1},
		{[]int{7, 7, 7}, []int{1, 2, 3}, 2},
		{[]int{3, -1, 99}, []int{1, 2, 3}, 2},
		{make([]int, 9), []int{1, 2, 3, 4, 5, 6, 7, 8, 9}, 5},
		{make([]int, 100000), numbers(200000), 49999},
	} {
		if got := conf.Nth(c.l, c.of); got != c.want {
			t.Errorf("Nth of %d places, %v ..: %d, want %d", len(c.l), head(c.of), got, c.want)
		}
	}
}

// reach: how many places of n have that number or a greater one.
func reach(n int, of []int, number int) int {
	count := 0
	for i := range n {
		have := 0
		if i < len(of) {
			have = of[i]
		}
		if have >= number {
			count++
		}
	}
	return count
}

// P1103: a quorum reaches the number that is told, and none reaches a greater one; the order of numbers does not count.
func TestNthIsTheGreatest(t *testing.T) {
	r := rand.New(rand.NewSource(12))
	for range 20000 {
		l, of := make([]int, 1+r.Intn(9)), make([]int, r.Intn(11))
		for i := range of {
			of[i] = r.Intn(9) - 4
		}
		got, q := conf.Nth(l, of), conf.Quorum(l)
		if reach(len(l), of, got) < q || reach(len(l), of, got+1) >= q {
			t.Fatalf("Nth of %d places, %v: %d", len(l), of, got)
		}
		if len(of) == len(l) {
			r.Shuffle(len(of), func(i, j int) { of[i], of[j] = of[j], of[i] })
			if again := conf.Nth(l, of); again != got {
				t.Fatalf("Nth of %d places, %v: %d, and %d in another order", len(l), of, again, got)
			}
		}
	}
}

// P1101: looks change nothing, neither in the lists nor in the room behind them.
func TestLooksChangeNothing(t *testing.T) {
	lists := [][]int{{9, 3, 5, 1, 77, 78}, {4, 8, 6, 2, 88, 89}}
	a, b := lists[0][:4], lists[1][:4]
	conf.Right(a)
	conf.Has(a, 1)
	conf.Quorum(a)
	conf.Beside(a, b)
	conf.Nth(a, b)
	conf.Nth(a[:2], b)
	conf.Nth(a, b[:2])
	if !slices.Equal(lists[0], []int{9, 3, 5, 1, 77, 78}) || !slices.Equal(lists[1], []int{4, 8, 6, 2, 88, 89}) {
		t.Errorf("%v", lists)
	}
}

// quorums: all sets of a list's servers that have Quorum of them, at least.
func quorums(set uint) []uint {
	var all []uint
	q := conf.Quorum(listOf(set))
	for some := set; some > 0; some = (some - 1) & set {
		if bits.OnesCount(some) >= q {
			all = append(all, some)
		}
	}
	return all
}

// P1104: any quorum of one list and any of one Beside it have a server in common.
func TestQuorumsMeet(t *testing.T) {
	const servers = 8
	sets := rightSets(servers)
	of := map[uint][]uint{}
	for _, set := range sets {
		of[set] = quorums(set)
	}
	for _, a := range sets {
		near := []uint{a}
		for id := range servers {
			near = append(near, a^1<<id)
		}
		for _, b := range near {
			if !conf.Beside(listOf(a), listOf(b)) {
				continue
			}
			for _, x := range of[a] {
				for _, y := range of[b] {
					if x&y == 0 {
						t.Fatalf("%v of %v, and %v of %v", listOf(x), listOf(a), listOf(y), listOf(b))
					}
				}
			}
		}
	}
}
