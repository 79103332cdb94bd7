package reads_test

import (
	"math/rand"
	"slices"
	"testing"

	"hustings/api"
	"hustings/reads"
)

// The chapter's example.
func TestExample(t *testing.T) {
	b := made(t, 0)
	ask(t, b, 7, 3, 1)
	wantReady(t, b, []int{0, 1, 2})
	hear(t, b, 1, 1)
	wantReady(t, b, []int{0, 1, 2}, reads.Ready{ID: 7, Index: 3})
	wantReady(t, b, []int{0, 1, 2})
}

// P1403: who counts: servers of the list, each once, me and those that were heard; of any list.
func TestReadyServers(t *testing.T) {
	for _, c := range []struct {
		servers []int
		want    bool
	}{
		{nil, false},
		{[]int{}, false},
		{[]int{4}, true},
		{[]int{4, 4, 4}, true},
		{[]int{5}, true},
		{[]int{9}, false},
		{[]int{4, 9}, false},
		{[]int{9, 4}, false},
		{[]int{4, 5}, true},
		{[]int{5, 6}, true},
		{[]int{4, 5, 9}, true},
		{[]int{9, 10, 4}, false},
		{[]int{4, 4, 4, 9}, false},
		{[]int{4, 5, 9, 9, 9, 9}, true},
		{[]int{4, 5, 9, 10}, false},
		{[]int{4, 5, 6, 9}, true},
		{[]int{4, 5, 6, 9, 10, 11}, false},
		{[]int{4, 5, 6, 9, 10}, true},
		{[]int{4, 5, 6, 7}, true},
		{[]int{-1}, false},
		{[]int{16}, false},
		{[]int{-1, 4}, false},
		{[]int{-1, 4, 5}, true},
		{[]int{lowest, highest, 4, 5}, false},
		{[]int{lowest, highest, 4, 5, 6}, true},
		{[]int{20, 21, 22, 4}, false},
		{[]int{7}, false}, // heard in an earlier round
		{[]int{4, 7}, false},
		{[]int{4, 5, 7}, true},
		{[]int{0, 1, 2, 3, 4, 5, 6, 7, 8, 9, 10, 11, 12, 13, 14, 15}, false},
	} {
		b := made(t, 4)
		ask(t, b, 1, 2, 3)
		hear(t, b, 5, 3)
		hear(t, b, 6, highest)
		hear(t, b, 7, 2)
		if !c.want {
			wantReady(t, b, c.servers)
			wantWaiting(t, b, 1)
			continue
		}
		wantReady(t, b, c.servers, reads.Ready{ID: 1, Index: 2})
		wantWaiting(t, b)
	}
}

// P1403: rounds at both ends: 0, and the highest number.
func TestReadyEdgeRounds(t *testing.T) {
	for _, c := range []struct {
		round, heard int
		want         bool
	}{
		{0, 0, true}, {0, 1, true}, {0, highest, true},
		{1, 0, false}, {1, 1, true}, {1, 2, true},
		{highest, highest - 1, false}, {highest, highest, true}, {highest - 1, highest, true}, {highest - 1, highest - 1, true}, {highest, 0, false},
	} {
		b := made(t, 15)
		ask(t, b, 1, 2, c.round)
		wantReady(t, b, []int{0, 15})
		hear(t, b, 0, c.round/2)
		if c.round > 0 {
			wantReady(t, b, []int{0, 15})
		}
		hear(t, b, 0, c.heard)
		if l := b.Ready([]int{0, 15}); len(l) == 1 != c.want {
			t.Error(c, l)
		}
	}
}

// P1403, P1405: up to four servers, of all rounds that they may be heard in, by reads of all rounds in all orders of asking.
func TestReadyOfAllSmall(t *testing.T) {
	orders := [][]int{{0, 1, 2, 3}, {3, 2, 1, 0}, {2, 0, 3, 1}, {1, 1, 3, 0}, {2, 2, 0, 0}}
	all := []int{0, 1, 2, 3}
	for heard := range 4 * 4 * 4 * 4 {
		for n := range 5 {
			for me := range 5 {
				for _, order := range orders {
					b, m := made(t, me), &model{me: me}
					for from, h := 0, heard; from < 4; from, h = from+1, h/4 {
						if round := h%4 - 1; round >= 0 {
							hear(t, b, from, round)
							m.hear(from, round)
						}
					}
					for id, round := range order {
						ask(t, b, id, round+id, round)
						m.ask(id, round+id, round)
					}
					wantReady(t, b, all[:n], m.ready(all[:n])...)
					wantWaiting(t, b, m.waiting()...)
				}
			}
		}
	}
}

// pair: a Book and its model, called alike by chance.
type pair struct {
	b      *reads.Book
	m      *model
	chance *rand.Rand
	round  int
	done   map[reads.Ready]int // how often each was Ready
	asked  map[reads.Ready]int // how often each was asked
}

func (p *pair) servers() []int {
	var l []int
	for range p.chance.Intn(9) {
		l = append(l, p.chance.Intn(20)-2)
	}
	return l
}

func (p *pair) number(most int) int {
	switch p.chance.Intn(30) {
	case 0:
		return -1
	case 1:
		return highest
	}
	return p.chance.Intn(most)
}

func (p *pair) step(t *testing.T) {
	t.Helper()
	var got, want api.Errno
	switch kind := p.chance.Intn(60); {
	case kind < 25:
		id, index, round := p.chance.Intn(250)-50, p.number(1000), p.number(p.round+3)
		got, want = p.b.Ask(id, index, round), p.m.ask(id, index, round)
		if want == api.OK {
			p.asked[reads.Ready{ID: id, Index: index}]++
		}
	case kind < 45:
		from, round := p.chance.Intn(18)-1, p.number(p.round+2)
		got, want = p.b.Heard(from, round), p.m.hear(from, round)
	case kind < 50:
		p.round++
	case kind < 59:
		p.ready(t)
	case p.chance.Intn(4) == 0:
		if a, b := p.b.Clear(), p.m.clear(); !slices.Equal(a, b) {
			t.Fatalf("Clear is %v, not %v", a, b)
		}
	}
	if got != want {
		t.Fatalf("error %d, not %d", got, want)
	}
	wantWaiting(t, p.b, p.m.waiting()...)
}

func (p *pair) ready(t *testing.T) {
	t.Helper()
	before := slices.Clone(p.m.reads)
	servers := p.servers()
	got := p.b.Ready(servers)
	if want := p.m.ready(servers); !slices.Equal(got, want) {
		t.Fatalf("Ready(%v) is %v, not %v", servers, got, want)
	}
	last := -1
	for _, r := range got {
		p.done[r]++
		if p.done[r] > p.asked[r] {
			t.Fatalf("%v is Ready %d times, and was asked %d times", r, p.done[r], p.asked[r])
		}
		i := slices.IndexFunc(before, func(a asked) bool { return a.id == r.ID })
		last = max(last, before[i].round)
	}
	left := p.b.Waiting()
	for _, a := range before {
		if a.round <= last && slices.Contains(left, a.id) {
			t.Fatalf("%v waits, and one of round %d was Ready", a, last)
		}
	}
}

// P1402 to P1405: rows of calls by chance: what is Ready was asked, each time once, and with it all of its round or an earlier one.
func TestByChance(t *testing.T) {
	chance := rand.New(rand.NewSource(14))
	for range 60 {
		me := chance.Intn(16)
		p := &pair{made(t, me), &model{me: me}, chance, 0, map[reads.Ready]int{}, map[reads.Ready]int{}}
		for range 400 {
			p.step(t)
		}
	}
}

// P1401: a long list of servers is answered soon, with a hundred reads of as many rounds.
func TestLongList(t *testing.T) {
	b := made(t, 0)
	servers := make([]int, 300000)
	for i := range servers {
		servers[i] = i
	}
	for id := range room {
		ask(t, b, id, 0, id)
	}
	for from := range 16 {
		hear(t, b, from, 3*from)
	}
	wantReady(t, b, servers)
	if l := b.Ready(make([]int, 300000)); len(l) != room {
		t.Error(len(l))
	}
}
