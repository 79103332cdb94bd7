package progress_test

import (
	"math/big"
	"testing"

	"hustings/progress"
)

// P1302: a peer begins behind the last index, or at 1, and matches nothing.
func TestBegin(t *testing.T) {
	for last, next := range map[int]int{
		lowest: 1, -2: 1, -1: 1, 0: 1, 1: 2, 5: 6, topBase: topBase + 1, highest - 1: highest, highest: highest,
	} {
		if p := progress.Begin(last); p != (progress.Peer{Next: next}) {
			t.Error(last, p)
		}
	}
}

// P1302: answers of one peer, one behind the other, of a log whose last index is 5.
func TestHeard(t *testing.T) {
	p := progress.Begin(5)
	for i, c := range []struct {
		yes  bool
		at   int
		want progress.Peer
	}{
		{false, 6, progress.Peer{Next: 6}},
		{false, 4, progress.Peer{Next: 4}},
		{false, 5, progress.Peer{Next: 4}},
		{false, 7, progress.Peer{Next: 4}},
		{false, -1, progress.Peer{Next: 4}},
		{true, 7, progress.Peer{Next: 4}},
		{true, 6, progress.Peer{Next: 4}},
		{true, -1, progress.Peer{Next: 4}},
		{true, highest, progress.Peer{Next: 4}},
		{true, lowest, progress.Peer{Next: 4}},
		{false, highest, progress.Peer{Next: 4}},
		{false, lowest, progress.Peer{Next: 4}},
		{false, 0, progress.Peer{Next: 1}},
		{true, 0, progress.Peer{Next: 1}},
		{true, 2, progress.Peer{Next: 3, Match: 2}},
		{true, 1, progress.Peer{Next: 3, Match: 2}},
		{false, 1, progress.Peer{Next: 3, Match: 2}},
		{true, 5, progress.Peer{Next: 6, Match: 5}},
		{false, 3, progress.Peer{Next: 6, Match: 5}},
	} {
		if p = progress.Heard(p, c.yes, c.at, 5); p != c.want {
			t.Fatal(i, c, p)
		}
	}
}

// P1302: a yes does not lower Next where it runs ahead of Match; a no lowers it to the hint, if that is not at or below Match.
func TestHeardAhead(t *testing.T) {
	for _, c := range []struct {
		p    progress.Peer
		yes  bool
		at   int
		want progress.Peer
	}{
		{progress.Peer{Next: 9, Match: 2}, true, 4, progress.Peer{Next: 9, Match: 4}},
		{progress.Peer{Next: 9, Match: 2}, true, 8, progress.Peer{Next: 9, Match: 8}},
		{progress.Peer{Next: 9, Match: 2}, true, 9, progress.Peer{Next: 10, Match: 9}},
		{progress.Peer{Next: 9, Match: 2}, false, 8, progress.Peer{Next: 8, Match: 2}},
		{progress.Peer{Next: 9, Match: 2}, false, 10, progress.Peer{Next: 9, Match: 2}},
		{progress.Peer{Next: 9, Match: 2}, false, 3, progress.Peer{Next: 3, Match: 2}},
		{progress.Peer{Next: 9, Match: 2}, false, 2, progress.Peer{Next: 3, Match: 2}},
		{progress.Peer{Next: 9, Match: 2}, false, 0, progress.Peer{Next: 3, Match: 2}},
	} {
		if p := progress.Heard(c.p, c.yes, c.at, 20); p != c.want {
			t.Error(c, p)
		}
	}
}

// truly: by P1302's words, in numbers without a bound; the highest int, where one is above it.
func truly(p progress.Peer, yes bool, at, last int) progress.Peer {
	big1 := func(n int) *big.Int { return big.NewInt(int64(n)) }
	one := func(n *big.Int) *big.Int { return new(big.Int).Add(n, big.NewInt(1)) }
	greater := func(a, b *big.Int) *big.Int {
		if a.Cmp(b) > 0 {
			return a
		}
		return b
	}
	back := func(n *big.Int) int {
		if !n.IsInt64() {
			return highest
		}
		return int(n.Int64())
	}
	if at < 0 || big1(at).Cmp(one(big1(last))) > 0 {
		return p
	}
	if yes && big1(at).Cmp(one(big1(last))) == 0 {
		return p
	}
	if yes {
		match := greater(big1(p.Match), big1(at))
		return progress.Peer{Next: back(greater(big1(p.Next), one(match))), Match: back(match)}
	}
	next := big1(p.Next)
	if at < p.Next {
		next = big1(at)
	}
	return progress.Peer{Next: back(greater(next, one(big1(p.Match)))), Match: p.Match}
}

// P1301, P1302, P1305: of any numbers: small ones and those at the edges, each by each.
func TestHeardOfAnyNumbers(t *testing.T) {
	numbers := []int{lowest, lowest + 1, -2, -1, 0, 1, 2, 3, 4, 5, 6, topBase, highest - 2, highest - 1, highest}
	for _, next := range numbers {
		for _, match := range numbers {
			for _, at := range numbers {
				for _, last := range numbers {
					for _, yes := range []bool{false, true} {
						p := progress.Peer{Next: next, Match: match}
						q := progress.Heard(p, yes, at, last)
						if want := truly(p, yes, at, last); q != want {
							t.Fatalf("Heard(%v, %v, %d, %d) is %v, not %v", p, yes, at, last, q, want)
						}
						if q.Match < match || match < next && q.Match >= q.Next && q.Match != highest {
							t.Fatalf("Heard(%v, %v, %d, %d) is %v", p, yes, at, last, q)
						}
					}
				}
			}
		}
	}
}

// P1305: whatever is heard of a peer from its beginning on, Match does not fall and stays below Next.
func TestNeverBack(t *testing.T) {
	seen := map[progress.Peer]bool{}
	var walk func(p progress.Peer)
	walk = func(p progress.Peer) {
		if seen[p] {
			return
		}
		seen[p] = true
		for last := -1; last <= 6; last++ {
			for at := -1; at <= 8; at++ {
				for _, yes := range []bool{false, true} {
					q := progress.Heard(p, yes, at, last)
					if q.Match < p.Match || q.Match >= q.Next || q.Match > 6 || q.Next < 1 {
						t.Fatalf("%v became %v by %v %d %d", p, q, yes, at, last)
					}
					walk(q)
				}
			}
		}
	}
	for last := -1; last <= 6; last++ {
		walk(progress.Begin(last))
	}
	// Next from Match and one up to 7, by each Match from 0 to 6.
	if len(seen) != 28 {
		t.Error(len(seen))
	}
}
