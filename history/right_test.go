package history_test

import (
	"math/rand"
	"slices"
	"testing"

	"hustings/history"
)

// P1903: each number of a call at its edges and past them.
func TestRightOne(t *testing.T) {
	for _, kind := range []int{history.Put, history.Get, history.Trim} {
		for _, answered := range []bool{true, false} {
			base := history.Call{Kind: kind, Begin: 5, End: 9, Answered: answered}
			for what, c := range map[string]struct {
				set     func(*history.Call, int)
				yes, no []int
				ifLost  []int // yes of one that is not answered alone
			}{
				"client": {set: func(c *history.Call, n int) { c.Client = n }, yes: []int{0, 1, moments, highest}, no: []int{-1, lowest}},
				"kind":   {set: func(c *history.Call, n int) { c.Kind = n }, yes: []int{1, 2, 3}, no: []int{0, 4, -1, lowest, highest}},
				"at":     {set: func(c *history.Call, n int) { c.At = n }, yes: []int{0, 1, moments - 1, moments}, no: []int{-1, moments + 1, lowest, highest}},
				"begin":  {set: func(c *history.Call, n int) { c.Begin = n }, yes: []int{0, 1, 8}, no: []int{-1, lowest, moments, highest}, ifLost: []int{9, 10, moments - 1}},
				"end":    {set: func(c *history.Call, n int) { c.End = n }, yes: []int{6, 7, moments - 1}, ifLost: []int{5, 4, 0, -1, lowest, moments, highest}},
				"late":   {set: func(c *history.Call, n int) { c.Begin, c.End = n, n+1 }, yes: []int{0, moments - 2}, no: []int{-1, moments}, ifLost: []int{moments - 1}},
				"from":   {set: func(c *history.Call, n int) { c.From, c.Most = n, n }, yes: []int{0, -1, lowest, highest}},
				"number": {set: func(c *history.Call, n int) { c.Number, c.Start = n, n }, yes: []int{0, -1, lowest, highest}},
			} {
				try := func(numbers []int, want bool) {
					for _, n := range numbers {
						x := base
						c.set(&x, n)
						if got := history.Right([]history.Call{x}); got != want {
							t.Errorf("kind %d, answered %v, %s %d: %v", kind, answered, what, n, got)
						}
					}
				}
				try(c.yes, true)
				try(c.no, false)
				try(c.ifLost, !answered)
			}
		}
	}
}

// P1903: calls of one client, which do not overlap; of several clients they may.
func TestRightRow(t *testing.T) {
	x := lost(put(0, 0, 0, 0, "x"))
	begun := func(client, begin int) history.Call {
		x.Client, x.Begin = client, begin
		return x
	}
	for i, c := range []struct {
		l    []history.Call
		want bool
	}{
		{nil, true},
		{[]history.Call{}, true},
		{[]history.Call{put(0, 1, 2, 0, "")}, true},
		{[]history.Call{put(0, 1, 2, 0, ""), put(0, 3, 4, 0, "")}, true},
		{[]history.Call{put(0, 1, 2, 0, ""), put(0, 2, 3, 0, "")}, true},
		{[]history.Call{put(0, 1, 3, 0, ""), put(0, 2, 4, 0, "")}, false},
		{[]history.Call{put(0, 1, 9, 0, ""), put(0, 2, 4, 0, "")}, false},
		{[]history.Call{put(0, 1, 2, 0, ""), put(0, 1, 2, 0, "")}, false},
		{[]history.Call{put(0, 1, 2, 0, ""), put(0, 1, 9, 0, "")}, false},
		{[]history.Call{put(0, 1, 3, 0, ""), put(1, 2, 4, 0, "")}, true},
		{[]history.Call{put(0, 1, 2, 0, ""), put(1, 1, 2, 0, "")}, true},
		{[]history.Call{put(0, 1, 5, 0, ""), put(1, 5, 6, 0, ""), get(0, 6, 7), trim(0, 5, 6, 0, 0)}, true},
		{[]history.Call{put(0, 1, 5, 0, ""), put(1, 5, 6, 0, ""), get(0, 6, 8), trim(0, 7, 9, 0, 0)}, false},
		{[]history.Call{begun(0, 1)}, true},
		{[]history.Call{begun(0, 1), begun(1, 1)}, true},
		{[]history.Call{begun(0, 1), begun(0, 1)}, false},
		{[]history.Call{begun(0, 1), begun(0, 2)}, false},
		{[]history.Call{put(0, 1, 2, 0, ""), begun(0, 2)}, true},
		{[]history.Call{put(0, 1, 2, 0, ""), begun(0, 9)}, true},
		{[]history.Call{put(0, 1, 3, 0, ""), begun(0, 2)}, false},
		{[]history.Call{put(0, 1, 3, 0, ""), begun(0, 1)}, false},
		{[]history.Call{put(0, 3, 4, 0, ""), begun(0, 2)}, false},
		{[]history.Call{put(0, 3, 4, 0, ""), begun(0, 2), put(0, 1, 2, 0, "")}, false},
		{[]history.Call{put(0, 3, 4, 0, ""), begun(0, 5), put(0, 1, 2, 0, "")}, true},
		{[]history.Call{put(0, 1, 2, 0, ""), {}}, false},
	} {
		reverse := slices.Clone(c.l)
		slices.Reverse(reverse)
		if history.Right(c.l) != c.want || history.Right(reverse) != c.want || right(c.l) != c.want {
			t.Errorf("%d: %v may be: not %v", i, c.l, c.want)
		}
	}
}

// P1903: at most 2000 calls.
func TestRightMany(t *testing.T) {
	var l []history.Call
	var order []int
	for k := range many + 2 {
		l = append(l, put(k%3, k, k+3, k, "x"))
		order = append(order, k)
	}
	wantLegal(t, l[:many], order[:many], 0, 0)
	for k := range l {
		if got := history.Right(l[:k]); got != (k <= many) {
			t.Fatalf("%d calls: %v", k, got)
		}
	}
	if !history.Right(l[2:]) {
		t.Error("the last ones may be")
	}
	wantLegal(t, l[:many+1], order[:many+1], 0, 1)
	wantLegal(t, l, nil, 0, 1)
}

// some: calls by chance, of few clients and moments.
func some(r *rand.Rand, n, moments int) []history.Call {
	var l []history.Call
	for k := range n {
		c := history.Call{Client: r.Intn(n), Begin: r.Intn(moments), Kind: 1 + r.Intn(3), At: r.Intn(4), Answered: r.Intn(4) > 0, Data: []byte{byte('a' + k)}}
		c.End = c.Begin + 1 + r.Intn(3)
		if r.Intn(20) == 0 {
			c.End, c.At = c.Begin, c.At-1
		}
		l = append(l, c)
	}
	return l
}

// P1903: Right of calls by chance, against the chapter's words.
func TestRightByChance(t *testing.T) {
	count := map[bool]int{}
	for seed := range int64(30000) {
		r := rand.New(rand.NewSource(seed))
		l := some(r, r.Intn(7), 12)
		want := right(l)
		count[want]++
		if got := history.Right(l); got != want {
			t.Fatalf("seed %d: %v may be: %v, not %v", seed, l, got, want)
		}
	}
	if count[true] < 5000 || count[false] < 5000 {
		t.Error(count)
	}
}
