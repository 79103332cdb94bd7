package cluster_test

import (
	"bytes"
	"fmt"
	"maps"
	"math/rand"
	"slices"
	"testing"

	"hustings/api"
	"hustings/client"
	"hustings/cluster"
	"hustings/history"
	"hustings/message"
	"hustings/net"
	"hustings/node"
	"hustings/vdisk"
	"hustings/watch"
)

// modelOrder: an order, and what came of it.
type modelOrder struct {
	client.Order
	w, begin, end int
	answer        node.Answer
	ended         bool
}

// model: a cluster by the chapter's words, one thing behind the other, without a thought of memory or time.
type model struct {
	o       cluster.Options
	disks   []*vdisk.Disk
	nodes   []*node.Node // nil: it crashed
	net     *net.Net
	clients []*client.Client
	calls   [][]client.Call
	answers [][]node.Answer
	moment  int
	orders  []modelOrder
	had     map[int]string // by numbers: the records
}

func (m *model) all() []int {
	var l []int
	for n := range m.o.All {
		l = append(l, n)
	}
	return l
}

func newModel(o cluster.Options) *model {
	m := &model{o: o, had: map[int]string{}}
	m.net, _ = net.New(500)
	for n := range o.All {
		d, _ := vdisk.New(o.Quota)
		m.disks, m.nodes = append(m.disks, d), append(m.nodes, nil)
		m.open(n, n)
	}
	for w := range o.Clients {
		c, _ := client.New(w+1, m.all(), 20)
		m.clients, m.calls, m.answers = append(m.clients, c), append(m.calls, nil), append(m.answers, nil)
	}
	return m
}

func (m *model) open(n, draw int) (e api.Errno) {
	var servers []int
	if n < m.o.Servers {
		servers = m.all()[:m.o.Servers]
	}
	o := node.Options{Least: 8, Beat: 2, Chunk: 64, Span: m.o.Span, Keep: m.o.Keep}
	m.nodes[n], e = node.Open(o, n, servers, m.disks[n], draw)
	return e
}

func (m *model) runs(n int) bool {
	return n >= 0 && n < m.o.All && m.nodes[n] != nil && !m.nodes[n].Down()
}

// node: ErrArg, where there is none, or ErrDown.
func (m *model) node(n int) api.Errno {
	switch {
	case n < 0 || n >= m.o.All:
		return api.ErrArg
	case !m.runs(n):
		return api.ErrDown
	}
	return api.OK
}

// behind: each call of a node.
func (m *model) behind(n int) {
	for _, b := range m.nodes[n].Messages() {
		x, _ := message.Get(b)
		l := net.Letter{From: n, To: x.To, B: b}
		if m.net.Open(l) && m.net.Len() < 500 {
			m.net.Send(l)
		}
	}
	for _, a := range m.nodes[n].Answers() {
		w := a.ID/1_000_000 - 1
		m.answers[w] = append(m.answers[w], a)
	}
	l, _ := m.nodes[n].Read(0, highest)
	for number, b := range l {
		m.had[number] = string(b)
	}
}

func (m *model) tick(n, draw int) api.Errno {
	if e := m.node(n); e != api.OK {
		return e
	}
	m.nodes[n].Tick(draw)
	m.behind(n)
	return api.OK
}

func (m *model) deliver(k int, draw func(to int) int) api.Errno {
	l, e := m.net.Take(k)
	if e == api.OK && m.runs(l.To) {
		m.nodes[l.To].Step(l.B, draw(l.To))
		m.behind(l.To)
	}
	return e
}

func (m *model) crash(n int) api.Errno {
	e := m.node(n)
	if e == api.OK {
		m.nodes[n] = nil
	}
	return e
}

func (m *model) start(n int, choices []int, draw int) api.Errno {
	switch m.node(n) {
	case api.ErrArg:
		return api.ErrArg
	case api.OK:
		return api.ErrBusy
	}
	m.disks[n].Crash(choices)
	return m.open(n, draw)
}

func (m *model) cut(n, fuse int) api.Errno {
	e := m.node(n)
	if e == api.OK {
		m.disks[n].Cut(fuse)
	}
	return e
}

func (m *model) do(w int, o client.Order) api.Errno {
	if w < 0 || w >= m.o.Clients || o.Kind == node.Trim {
		return api.ErrArg
	}
	e := m.clients[w].Do(o)
	if e == api.OK {
		m.moment++
		o.Data = bytes.Clone(o.Data)
		m.orders = append(m.orders, modelOrder{Order: o, w: w, begin: m.moment})
		m.ask(w)
	}
	return e
}

func (m *model) ask(w int) {
	m.calls[w] = append(m.calls[w], m.clients[w].Calls()...)
}

func (m *model) carry(w int, arrives bool) api.Errno {
	if w < 0 || w >= m.o.Clients {
		return api.ErrArg
	}
	if len(m.calls[w]) == 0 {
		return api.ErrNone
	}
	x := m.calls[w][0]
	m.calls[w] = m.calls[w][1:]
	if arrives && m.runs(x.To) {
		m.nodes[x.To].Ask(x.Ask)
		m.behind(x.To)
	}
	return api.OK
}

func (m *model) bring(w int, arrives bool) api.Errno {
	if w < 0 || w >= m.o.Clients {
		return api.ErrArg
	}
	if len(m.answers[w]) == 0 {
		return api.ErrNone
	}
	a := m.answers[w][0]
	m.answers[w] = m.answers[w][1:]
	if !arrives {
		return api.OK
	}
	m.clients[w].Heard(a)
	m.ask(w)
	if _, last, done := m.clients[w].Done(); done {
		m.moment++
		for k := range m.orders {
			if x := &m.orders[k]; x.w == w && !x.ended {
				x.ended, x.end, x.answer = true, m.moment, last
			}
		}
	}
	return api.OK
}

func (m *model) wait(w int) api.Errno {
	if w < 0 || w >= m.o.Clients {
		return api.ErrArg
	}
	m.clients[w].Tick()
	m.ask(w)
	return api.OK
}

func (m *model) settle(rounds int) api.Errno {
	if rounds < 0 || rounds > 2000 {
		return api.ErrArg
	}
	draw := func(n int) int { return 2 * n }
	for range rounds {
		for w := range m.o.Clients {
			for m.carry(w, true) == api.OK {
			}
		}
		for count := 0; count < 5000 && m.net.Next(0) >= 0; count++ {
			m.deliver(m.net.Next(0), draw)
		}
		for w := range m.o.Clients {
			for m.bring(w, true) == api.OK {
			}
		}
		for w := range m.o.Clients {
			m.wait(w)
		}
		for n := range m.o.All {
			m.tick(n, draw(n))
		}
	}
	return api.OK
}

func (m *model) last(w int) (a node.Answer) {
	end := 0
	for _, x := range m.orders {
		if x.w == w && x.ended && x.end > end {
			end, a = x.end, x.answer
		}
	}
	return a
}

func (m *model) history() []history.Call {
	var l []history.Call
	for _, x := range m.orders {
		y := history.Call{Client: len(l), Begin: x.begin}
		switch x.Kind {
		default:
			continue
		case node.Put:
			y.Kind, y.Data = history.Put, x.Data
		case node.Get:
			y.Kind, y.From, y.Most = history.Get, x.From, x.Most
		}
		if x.ended && x.answer.E == api.OK {
			y.Answered, y.End, y.Number, y.Records = true, x.end, x.answer.Number, x.answer.Records
			y.At = 2 * y.Number
			if x.Kind == node.Get {
				y.Start = x.answer.Session
			} else {
				y.At++
			}
		}
		l = append(l, y)
	}
	for _, number := range slices.Sorted(maps.Keys(m.had)) {
		if slices.ContainsFunc(l, func(y history.Call) bool {
			return y.Kind == history.Put && y.Answered && y.Number == number
		}) {
			continue
		}
		first := slices.IndexFunc(l, func(y history.Call) bool {
			return y.Kind == history.Put && !y.Answered && y.At == 0 && string(y.Data) == m.had[number]
		})
		if first >= 0 {
			l[first].At = 2*number + 1
		}
	}
	return l
}

// looks: as those of a cluster.
func (m *model) looks() string {
	var b bytes.Buffer
	for n := range m.o.All {
		var s watch.Seen
		var base []int
		var records [][]byte
		up := m.runs(n)
		if up {
			x := m.nodes[n]
			s = watch.Seen{ID: n, Term: x.Term(), Commit: x.Applied(), Leads: x.Role() == 3, View: x.View()}
			base = x.ServersAt(x.Base())
			records, _ = x.Read(0, highest)
		}
		fmt.Fprintf(&b, "node %d: %v %v %d %d %d %v %s %v %v %q\n", n, up, up, s.ID, s.Term, s.Commit, s.Leads, viewed(s), base, up, records)
	}
	fmt.Fprintf(&b, "letters: %d\n", m.net.Len())
	for w, x := range m.clients {
		fmt.Fprintf(&b, "client %d: %v %d %s\n", w, x.Busy(), x.Session(), answered(m.last(w)))
	}
	for _, x := range m.history() {
		fmt.Fprintf(&b, "call: %s\n", called(x))
	}
	return b.String()
}

// pair: a cluster and its model, which are asked the same.
type pair struct {
	rnd *rand.Rand
	c   *cluster.Cluster
	m   *model
}

// number: mostly from 0 to below n; sometimes one that is not there.
func (p *pair) number(n int) int {
	if n == 0 || p.rnd.Intn(40) == 0 {
		return []int{-1, n, n + 1, lowest, highest}[p.rnd.Intn(5)]
	}
	return p.rnd.Intn(n)
}

func (p *pair) someNumbers(most, below int) []int {
	var l []int
	for range p.rnd.Intn(most + 1) {
		l = append(l, p.rnd.Intn(below))
	}
	return l
}

func (p *pair) order(w int) client.Order {
	o := client.Order{Kind: []int{2, 2, 2, 2, 2, 2, 3, 3, 3, 1, 5, 6, 4, 0}[p.rnd.Intn(14)]}
	if o.Kind == node.Put && p.c.Session(w) == 0 && p.rnd.Intn(4) > 0 {
		o.Kind = node.OpenSession
	}
	switch o.Kind {
	case node.Put:
		o.Data = []byte{byte('a' + p.rnd.Intn(4))}
	case node.Get:
		o.From, o.Most = p.rnd.Intn(3), p.rnd.Intn(20)
	case node.Add, node.Drop:
		o.From = p.number(p.m.o.All)
	}
	return o
}

// befalls: one thing, by chance: what both answer.
func (p *pair) befalls() (what string, got, want api.Errno) {
	c, m, r := p.c, p.m, p.rnd
	n, w, k := p.number(m.o.All), p.number(m.o.Clients), p.number(m.net.Len())
	draw, yes := r.Intn(50), r.Intn(5) > 0
	switch x := r.Intn(200); {
	case x < 30:
		return fmt.Sprint("Tick ", n), c.Tick(n, draw), m.tick(n, draw)
	case x < 75:
		return fmt.Sprint("Deliver ", k), c.Deliver(k, draw), m.deliver(k, func(int) int { return draw })
	case x < 77:
		return fmt.Sprint("Lose ", k), c.Lose(k), m.net.Lose(k)
	case x < 81:
		return fmt.Sprint("Double ", k), c.Double(k), m.net.Double(k)
	case x < 83:
		ids := p.someNumbers(3, api.MaxID+1)
		return fmt.Sprint("Wall ", ids), c.Wall(ids), m.net.Wall(ids)
	case x < 87:
		return "Wall", c.Wall(nil), m.net.Wall(nil)
	case x < 89:
		return fmt.Sprint("Crash ", n), c.Crash(n), m.crash(n)
	case x < 101:
		choices := p.someNumbers(5, 50)
		return fmt.Sprint("Start ", n, choices), c.Start(n, choices, draw), m.start(n, choices, draw)
	case x < 102:
		fuse := r.Intn(30) - 1
		return fmt.Sprint("Cut ", n, fuse), c.Cut(n, fuse), m.cut(n, fuse)
	case x < 128:
		o := p.order(w)
		return fmt.Sprintf("Do %d %+v", w, o), c.Do(w, o), m.do(w, o)
	case x < 152:
		return fmt.Sprint("Carry ", w, yes), c.Carry(w, yes), m.carry(w, yes)
	case x < 176:
		return fmt.Sprint("Bring ", w, yes), c.Bring(w, yes), m.bring(w, yes)
	case x < 190:
		return fmt.Sprint("Wait ", w), c.Wait(w), m.wait(w)
	}
	rounds := r.Intn(12) - 1
	return fmt.Sprint("Settle ", rounds), c.Settle(rounds), m.settle(rounds)
}

// P2101 to P2106: rows of calls by chance, of which a cluster tells what the chapter's words make of them.
func TestAgainstModel(t *testing.T) {
	told, lost := 0, 0
	for seed := range int64(40) {
		r := rand.New(rand.NewSource(seed))
		all := 1 + r.Intn(api.MaxServers)
		o := cluster.Options{
			Servers: 1 + r.Intn(all), All: all, Clients: (r.Intn(6) + 1) % 6, Keep: 1 + r.Intn(20),
			Span: []int{3, 20, 1 << 40}[r.Intn(3)], Quota: []int{3000, 10000, api.MaxBytes}[r.Intn(3)],
		}
		p := &pair{rnd: r, c: made(t, o), m: newModel(o)}
		for step := range 1500 {
			what, got, want := p.befalls()
			if got != want {
				t.Fatalf("seed %d step %d: %s: error %d, want %d", seed, step, what, got, want)
			}
			if l, m := looks(p.c, o), p.m.looks(); l != m {
				t.Fatalf("seed %d step %d: %s:\n%s\nwant\n%s", seed, step, what, l, m)
			}
			lost += counted(p.m.history())
		}
		for _, x := range p.m.history() {
			if x.Answered {
				told++
			}
		}
	}
	if told < 700 || lost < 700 {
		t.Errorf("only %d calls were answered, and %d looks told of Puts that were not, but counted: too little befell them", told, lost)
	}
}

// counted: of the Puts that are not answered, how many have a record.
func counted(l []history.Call) int {
	count := 0
	for _, x := range l {
		if x.Kind == history.Put && !x.Answered && x.At > 0 {
			count++
		}
	}
	return count
}
