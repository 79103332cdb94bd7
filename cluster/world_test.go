package cluster_test

import (
	"fmt"
	"math/rand"
	"slices"
	"testing"

	"hustings/api"
	"hustings/client"
	"hustings/cluster"
	"hustings/history"
	"hustings/node"
	"hustings/watch"
)

// world: a cluster that all befalls that can, by chance, and what must be so of it.
type world struct {
	t       *testing.T
	rnd     *rand.Rand
	o       cluster.Options
	c       *cluster.Cluster
	changes bool                // are servers added and dropped, too?
	ordered map[int]int         // by clients: the kinds of orders that were begun
	leaders map[int]int         // by terms
	puts    map[string]int      // by bytes: the Puts that were begun
	told    int                 // orders that ended with OK
	starts  int                 // of nodes that did not run
	refuses map[int][]api.Errno // by kinds: what an order may end with beside OK
}

func newWorld(t *testing.T, seed int64, changes bool) *world {
	r := rand.New(rand.NewSource(seed))
	all := 1 + r.Intn(api.MaxServers)
	o := cluster.Options{
		Servers: 1 + r.Intn(all), All: all, Clients: 1 + r.Intn(4), Keep: 1 + r.Intn(30),
		Span: []int{20, 60, 1000}[r.Intn(3)], Quota: []int{20000, 1 << 17, api.MaxBytes}[r.Intn(3)],
	}
	return &world{
		t: t, rnd: r, o: o, c: made(t, o), changes: changes,
		ordered: map[int]int{}, leaders: map[int]int{}, puts: map[string]int{},
		refuses: map[int][]api.Errno{
			node.OpenSession: {api.ErrSession},
			node.Put:         {api.ErrSession},
			node.Get:         {api.ErrRange},
			node.Add:         {api.ErrServer},
			node.Drop:        {api.ErrServer},
		},
	}
}

// order: some bytes are put once only, others again and again.
func (w *world) order() client.Order {
	x := w.rnd.Intn(12)
	switch {
	case x < 1:
		return client.Order{Kind: node.OpenSession}
	case x < 4:
		return put(fmt.Sprint(w.rnd.Intn(5)))
	case x < 6:
		return put(fmt.Sprint("only ", len(w.puts)))
	case x < 10 || !w.changes:
		return get(w.rnd.Intn(3), w.rnd.Intn(100))
	}
	return client.Order{Kind: []int{node.Add, node.Drop}[x-10], From: w.rnd.Intn(w.o.All)}
}

func (w *world) do(k int) {
	o := w.order()
	if w.c.Do(k, o) != api.OK {
		return
	}
	w.ordered[k] = o.Kind
	if o.Kind == node.Put {
		w.puts[string(o.Data)]++
	}
}

func (w *world) wall() {
	var ids []int
	for id := range w.o.All {
		if w.rnd.Intn(3) == 0 {
			ids = append(ids, id)
		}
	}
	w.c.Wall(ids)
}

func (w *world) start(n int) {
	if w.c.Up(n) {
		return
	}
	var choices []int
	for range w.rnd.Intn(6) {
		choices = append(choices, w.rnd.Int())
	}
	wantErr(w.t, "Start", w.c.Start(n, choices, w.rnd.Int()), api.OK)
	w.starts++
}

func (w *world) deliver() {
	k := 0
	if w.rnd.Intn(3) == 0 {
		k = w.rnd.Intn(max(1, w.c.Waiting()))
	}
	w.c.Deliver(k, w.rnd.Int())
}

// befalls: one thing more.
func (w *world) befalls() {
	c, r := w.c, w.rnd
	n, k, letter := r.Intn(w.o.All), r.Intn(w.o.Clients), r.Intn(max(1, c.Waiting()))
	switch x := r.Intn(1000); {
	case x < 250:
		c.Tick(n, r.Int())
	case x < 600:
		w.deliver()
	case x < 620:
		c.Lose(letter)
	case x < 640:
		c.Double(letter)
	case x < 645:
		w.wall()
	case x < 655:
		c.Wall(nil)
	case x < 660:
		c.Crash(n)
	case x < 680:
		w.start(n)
	case x < 683:
		c.Cut(n, r.Intn(40))
	case x < 740:
		w.do(k)
	case x < 800:
		c.Carry(k, r.Intn(5) > 0)
	case x < 860:
		c.Bring(k, r.Intn(5) > 0)
	case x < 980:
		c.Wait(k)
	default:
		c.Settle(r.Intn(4))
	}
}

// checkEnds: what an order may end with.
func (w *world) checkEnds() {
	w.t.Helper()
	for k, kind := range w.ordered {
		if w.c.Busy(k) {
			continue
		}
		delete(w.ordered, k)
		e := w.c.Last(k).E
		if e == api.OK {
			w.told++
		} else if !slices.Contains(w.refuses[kind], e) {
			w.t.Fatalf("an order of the kind %d ended with error %d", kind, e)
		}
	}
}

// checkSafe: P2107, P2108.
func (w *world) checkSafe() {
	w.t.Helper()
	var seen []watch.Seen
	var records [][][]byte
	for n := range w.o.All {
		s, ok := w.c.Seen(n)
		if !ok {
			continue
		}
		l, _ := w.c.Records(n)
		if at := watch.Steps(s.View, w.c.Base(n)); at != 0 {
			w.t.Fatalf("node %d: servers jump at %d", n, at)
		}
		for k, other := range seen {
			match, agree, same := watch.Match(s.View, other.View), watch.Agree(s, other), watch.Same(l, records[k], 0, 0)
			if match != 0 || agree != 0 || same != -1 {
				w.t.Fatalf("nodes %d and %d differ: logs at %d, what is committed at %d, records at %d", other.ID, n, match, agree, same)
			}
		}
		seen, records = append(seen, s), append(records, l)
		w.checkOnce(l)
	}
	h := w.c.History()
	if at, e := history.Legal(h, history.Order(h)); e != api.OK {
		w.t.Fatalf("history: error %d at %d", e, at)
	}
}

func (w *world) checkOnce(l [][]byte) {
	w.t.Helper()
	count := map[string]int{}
	for _, b := range l {
		count[string(b)]++
		if count[string(b)] > w.puts[string(b)] {
			w.t.Fatalf("%q has more records than Puts", b)
		}
	}
}

// checkLeaders: P2107: of each term.
func (w *world) checkLeaders() {
	w.t.Helper()
	for n := range w.o.All {
		s, _ := w.c.Seen(n)
		if !s.Leads {
			continue
		}
		if id, led := w.leaders[s.Term]; led && id != n {
			w.t.Fatalf("%d and %d lead in the term %d", id, n, s.Term)
		}
		w.leaders[s.Term] = n
	}
}

func (w *world) storm(steps int) {
	w.t.Helper()
	for k := range steps {
		w.befalls()
		w.checkLeaders()
		w.checkEnds()
		if k%40 == 0 {
			w.checkSafe()
		}
	}
	w.checkSafe()
}

// heal: all nodes run, all disks are well, no wall stands.
func (w *world) heal() {
	w.t.Helper()
	w.c.Wall(nil)
	for n := range w.o.All {
		w.start(n)
		w.c.Cut(n, -1)
	}
}

// checkSettled: P2109.
func (w *world) checkSettled() {
	w.t.Helper()
	settle(w.t, w.c, 300)
	w.checkLeaders()
	w.checkEnds()
	w.checkSafe()
	for k := range w.o.Clients {
		want(w.t, fmt.Sprint("Busy of ", k), w.c.Busy(k), false)
	}
	lead := leader(w.t, w.c, w.o.All)
	records := recordsOf(w.t, w.c, lead)
	for _, n := range serversOf(w.t, w.c, lead) {
		want(w.t, fmt.Sprint("records of ", n), recordsOf(w.t, w.c, n), records)
	}
}

// runs: worlds by many seeds.
func runs(t *testing.T, seeds []int64, changes bool) {
	t.Helper()
	told, led, starts := 0, 0, 0
	for _, seed := range seeds {
		t.Run(fmt.Sprint("seed ", seed), func(t *testing.T) {
			w := newWorld(t, seed, changes)
			for range 3 {
				w.storm(1500)
				w.heal()
				w.checkSettled()
			}
			told, led, starts = told+w.told, led+len(w.leaders), starts+w.starts
		})
	}
	if told < 20*len(seeds) || led < 5*len(seeds) || starts < 5*len(seeds) {
		t.Errorf("only %d orders were done, %d terms had leaders, and nodes started %d times: too little befell them", told, led, starts)
	}
}

func upTo(n int) []int64 {
	var l []int64
	for seed := range n {
		l = append(l, int64(seed))
	}
	return l
}

// P2107 to P2109, P1 to P8: whatever befalls, where the servers stay the same.
func TestStorms(t *testing.T) {
	runs(t, upTo(40), false)
}

// P2107 to P2109, P5: and where they change. In few such storms nobody comes to lead, by chapter 15's words: a server that removed itself by an entry that is not committed, and came back, does not try, though the others may need its vote; and two whose draws leave the same rest may stand together for ever. These seeds are not among them.
func TestStormsChanges(t *testing.T) {
	runs(t, upTo(40), true)
}
