package client_test

import (
	"math/rand"
	"slices"
	"testing"

	"hustings/api"
	"hustings/client"
	"hustings/node"
)

// model: a client by the chapter's words, which keeps all that was asked and does nothing but look it up.
type model struct {
	id, patience int
	servers      []int
	place        int
	session, seq int
	order        client.Order
	waits, done  bool
	answer       node.Answer
	left         int           // ticks up to which it asks the next one
	asked        []client.Call // in all
	seen         int           // of these
}

func (m *model) ask() {
	a := node.Ask{ID: m.id*1000000 + len(m.asked) + 1, Kind: m.order.Kind, From: m.order.From, Most: m.order.Most, Data: m.order.Data}
	if a.Kind == node.Put {
		a.Session, a.Seq = m.session, m.seq
	}
	m.asked = append(m.asked, client.Call{To: m.servers[m.place], Ask: a})
	m.left = m.patience
}

func (m *model) next() {
	m.place++
	if m.place == len(m.servers) {
		m.place = 0
	}
}

func (m *model) do(o client.Order, mayBe bool) api.Errno {
	if !mayBe {
		return api.ErrArg
	}
	if m.waits || m.done {
		return api.ErrBusy
	}
	if o.Kind == node.Put {
		if m.session == 0 {
			return api.ErrSession
		}
		m.seq++
	}
	m.order, m.waits = o, true
	m.ask()
	return api.OK
}

func (m *model) heard(a node.Answer) api.Errno {
	if !m.waits || a.ID != m.asked[len(m.asked)-1].Ask.ID {
		return api.ErrNone
	}
	if slices.Contains(again, a.E) {
		m.left = 1
		return api.OK
	}
	if a.E == api.ErrLeader {
		m.next()
		for place, id := range m.servers {
			if id == a.Leader {
				m.place = place
			}
		}
		m.ask()
		return api.OK
	}
	if a.E == api.OK && m.order.Kind == node.OpenSession {
		m.session = a.Session
	}
	m.answer, m.waits, m.done = a, false, true
	return api.OK
}

func (m *model) tick() {
	if !m.waits {
		return
	}
	m.left--
	if m.left == 0 {
		m.next()
		m.ask()
	}
}

// play: a step by chance, of a client and its model.
func play(t *testing.T, rnd *rand.Rand, c *client.Client, m *model) {
	t.Helper()
	switch rnd.Intn(8) {
	case 0, 1:
		l, mayBe := orders(), rnd.Intn(10) > 0
		if !mayBe {
			l = wrong()
		}
		o := pick(rnd, l)
		wantErr(t, "Do "+ordered(o), c.Do(o), m.do(o, mayBe))
	case 2, 3:
		a := node.Answer{
			ID:      m.id*1000000 + len(m.asked) - rnd.Intn(5)/3,
			E:       pick(rnd, append([]api.Errno{api.OK, api.ErrLeader, api.ErrLeader, api.ErrSession, api.ErrOld, api.ErrRange, -5}, again...)),
			Session: rnd.Intn(4),
			Number:  rnd.Intn(9),
			Leader:  rnd.Intn(9) - 2,
		}
		wantErr(t, "Heard "+told(a), c.Heard(a), m.heard(a))
	case 4, 5, 6:
		for range rnd.Intn(4) {
			m.tick()
			tick(t, c, 1)
		}
	case 7:
		wantCalls(t, c, m.asked[m.seen:]...)
		m.seen = len(m.asked)
		if !m.done {
			wantNotDone(t, c)
			return
		}
		o, a := finish(t, c)
		if ordered(o) != ordered(m.order) || told(a) != told(m.answer) {
			t.Fatalf("done: %s, %s; not %s, %s", ordered(o), told(a), ordered(m.order), told(m.answer))
		}
		m.done = false
	}
}

func pick[T any](rnd *rand.Rand, l []T) T {
	return l[rnd.Intn(len(l))]
}

// P1802 to P1806: rows of calls by chance, by the chapter's words; all IDs of two clients differ, and what is asked for one order differs in ID and To alone.
func TestModel(t *testing.T) {
	for seed := range int64(300) {
		rnd := rand.New(rand.NewSource(seed))
		ids := map[int]bool{}
		asked := 0
		for _, id := range []int{1 + rnd.Intn(500), 501 + rnd.Intn(500)} {
			var servers []int
			for s := range 7 {
				if rnd.Intn(2) == 0 || s == 6 && servers == nil {
					servers = append(servers, s)
				}
			}
			m := &model{id: id, patience: 1 + rnd.Intn(4), servers: servers}
			c := made(t, id, servers, m.patience)
			for range 200 {
				play(t, rnd, c, m)
				wantLooks(t, c, m.waits || m.done, m.session, m.seq, len(m.asked))
			}
			asked += len(m.asked)
			for _, x := range m.asked {
				ids[x.Ask.ID] = true
			}
		}
		if len(ids) != asked {
			t.Fatalf("seed %d: %d IDs of %d calls", seed, len(ids), asked)
		}
	}
}

// P1806: all that is asked for one order is the same, but for ID and To, however it came to be asked again; no ID comes twice.
func TestSame(t *testing.T) {
	for seed := range int64(50) {
		rnd := rand.New(rand.NewSource(seed))
		c := inSession(t, 999, []int{0, 1, 2}, 2)
		id := 999000001
		for range 20 {
			o := pick(rnd, orders())
			do(t, c, o)
			first := last(t, c)
			for range rnd.Intn(30) {
				switch rnd.Intn(3) {
				case 0:
					hear(t, c, node.Answer{ID: 999000000 + c.Tries(), E: api.ErrLeader, Leader: rnd.Intn(5), Session: 77})
				case 1:
					hear(t, c, node.Answer{ID: 999000000 + c.Tries(), E: pick(rnd, again), Session: 77, Number: 5})
				case 2:
					tick(t, c, 1)
				}
			}
			for _, x := range append([]client.Call{first}, c.Calls()...) {
				id++
				if x.Ask.ID != id {
					t.Fatalf("seed %d: ID %d, not %d", seed, x.Ask.ID, id)
				}
				x.Ask.ID, x.To = first.Ask.ID, first.To
				if called([]client.Call{x}) != called([]client.Call{first}) {
					t.Fatalf("seed %d: %s\nnot\n%s", seed, called([]client.Call{x}), called([]client.Call{first}))
				}
			}
			hear(t, c, node.Answer{ID: id, E: api.ErrNone})
			finish(t, c)
		}
	}
}
