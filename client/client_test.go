package client_test

import (
	"fmt"
	"slices"
	"testing"

	"hustings/api"
	"hustings/client"
	"hustings/node"
)

// P1801: a nil Client, and one that New did not make; and it stays so.
func TestNobody(t *testing.T) {
	for what, c := range map[string]*client.Client{"nil": nil, "not made": {}, "new": new(client.Client)} {
		for range 2 {
			for kind := -1; kind <= 7; kind++ {
				wantErr(t, what, c.Do(client.Order{Kind: kind}), api.ErrArg)
			}
			for _, e := range []api.Errno{api.OK, api.ErrLeader, api.ErrWait, api.ErrSession} {
				wantErr(t, what, c.Heard(node.Answer{E: e}), api.ErrArg)
				wantErr(t, what, c.Heard(node.Answer{ID: 1000001, E: e}), api.ErrArg)
			}
			wantErr(t, what, c.Tick(), api.ErrArg)
			wantCalls(t, c)
			wantNotDone(t, c)
			wantLooks(t, c, false, 0, 0, 0)
		}
	}
}

// P1802: New takes ids and patiences from 1 to 1000, and lists of servers that may be; nothing was asked then.
func TestNew(t *testing.T) {
	for _, l := range [][]int{{0}, {15}, {0, 1}, {3, 7, 15}, {0, 1, 2, 3, 4, 5, 6}, {9, 10, 11, 12, 13, 14, 15}} {
		for _, n := range []int{1, 2, 500, 999, 1000} {
			for _, c := range []*client.Client{made(t, n, l, 1), made(t, 1, l, n), made(t, n, l, n)} {
				wantLooks(t, c, false, 0, 0, 0)
				wantCalls(t, c)
				wantNotDone(t, c)
				wantErr(t, "Heard", c.Heard(node.Answer{}), api.ErrNone)
				tick(t, c, 3)
				wantLooks(t, c, false, 0, 0, 0)
				wantCalls(t, c)
			}
		}
	}
}

// P1802: New of what may not be: ErrArg, and no Client.
func TestNewErrors(t *testing.T) {
	refused := func(id int, servers []int, patience int) {
		t.Helper()
		if c, e := client.New(id, servers, patience); c != nil || e != api.ErrArg {
			t.Errorf("New(%d, %v, %d): %v, error %d", id, servers, patience, c, e)
		}
	}
	for _, n := range []int{0, -1, 1001, 1 << 40, lowest, highest} {
		refused(n, []int{0}, 1)
		refused(1, []int{0}, n)
		refused(n, []int{0}, n)
		refused(n, nil, n)
	}
	for _, l := range [][]int{
		nil,
		{},
		{-1},
		{16},
		{lowest},
		{highest},
		{0, 0},
		{1, 0},
		{0, 2, 1},
		{-1, 0},
		{14, 15, 16},
		{0, 1, 2, 3, 4, 5, 6, 7},
		slices.Repeat([]int{1}, 1000),
	} {
		refused(1, l, 1)
	}
}

// orders: some that may be, at the edges of what may.
func orders() []client.Order {
	return []client.Order{
		{Kind: node.OpenSession},
		{Kind: node.Put},
		{Kind: node.Put, Data: []byte("x")},
		{Kind: node.Put, Data: make([]byte, api.MaxData)},
		{Kind: node.Get},
		{Kind: node.Get, From: highest, Most: highest},
		{Kind: node.Get, From: 3, Most: 4},
		{Kind: node.Trim},
		{Kind: node.Trim, From: highest},
		{Kind: node.Add},
		{Kind: node.Add, From: 15},
		{Kind: node.Drop},
		{Kind: node.Drop, From: 15},
		// What an order's kind has no use for is anything, and is asked as it is.
		{Kind: node.OpenSession, From: -1, Most: lowest, Data: make([]byte, 2000)},
		{Kind: node.Put, From: lowest, Most: -1, Data: []byte("x")},
		{Kind: node.Get, From: 1, Most: 2, Data: make([]byte, api.MaxData+1)},
		{Kind: node.Trim, From: 1, Most: -1, Data: make([]byte, api.MaxData+1)},
		{Kind: node.Add, From: 1, Most: lowest, Data: make([]byte, 2000)},
		{Kind: node.Drop, From: 1, Most: highest, Data: []byte("x")},
	}
}

// P1802: an order that may be is asked, as it is, of the first server; a Put with its session and seq, others without.
func TestDo(t *testing.T) {
	for _, o := range orders() {
		c := inSession(t, 7, []int{4, 5}, 3)
		do(t, c, o)
		want := node.Ask{ID: 7000002, Kind: o.Kind, From: o.From, Most: o.Most, Data: o.Data}
		if o.Kind == node.Put {
			want.Session, want.Seq = 9, 1
		}
		wantLooks(t, c, true, 9, want.Seq, 2)
		wantNotDone(t, c)
		wantCalls(t, c, client.Call{To: 4, Ask: want})
		wantCalls(t, c)
		wantLooks(t, c, true, 9, want.Seq, 2)
		hear(t, c, node.Answer{ID: 7000002, E: 77})
		if got, _ := finish(t, c); ordered(got) != ordered(o) {
			t.Errorf("done is %s, not %s", ordered(got), ordered(o))
		}
	}
}

// wrong: orders that may not be.
func wrong() []client.Order {
	l := []client.Order{
		{Kind: node.Put, Data: make([]byte, api.MaxData+1)},
		{Kind: node.Put, Data: make([]byte, 10*api.MaxData)},
		{Kind: node.Get, From: -1},
		{Kind: node.Get, Most: -1},
		{Kind: node.Get, From: -1, Most: -1},
		{Kind: node.Get, From: lowest, Most: 1},
		{Kind: node.Get, From: 1, Most: lowest},
		{Kind: node.Trim, From: -1},
		{Kind: node.Trim, From: lowest},
	}
	for _, kind := range []int{node.Add, node.Drop} {
		for _, id := range []int{-1, 16, lowest, highest} {
			l = append(l, client.Order{Kind: kind, From: id})
		}
	}
	for _, kind := range []int{0, -1, 7, 8, 1 << 40, lowest, highest} {
		l = append(l, client.Order{Kind: kind})
	}
	return l
}

// P1802: an order that may not be: ErrArg, ahead of what else is wrong; and nothing has changed.
func TestDoArg(t *testing.T) {
	idle, busy := made(t, 1, []int{0, 1}, 2), made(t, 1, []int{0, 1}, 2)
	do(t, busy, client.Order{Kind: node.OpenSession})
	last(t, busy)
	for _, o := range wrong() {
		wantErr(t, ordered(o), idle.Do(o), api.ErrArg)
		wantLooks(t, idle, false, 0, 0, 0)
		wantCalls(t, idle)
		wantErr(t, ordered(o), busy.Do(o), api.ErrArg)
		wantLooks(t, busy, true, 0, 0, 1)
		wantCalls(t, busy)
	}
}

// P1802: ErrBusy from an order on till its Done is asked, ahead of ErrSession; and nothing has changed.
func TestDoBusy(t *testing.T) {
	c := made(t, 1, []int{0, 1}, 2)
	refused := func(what string, tries int) {
		t.Helper()
		for _, o := range orders() {
			wantErr(t, what, c.Do(o), api.ErrBusy)
		}
		wantLooks(t, c, true, 0, 0, tries)
	}
	open := client.Order{Kind: node.OpenSession, From: 5}
	do(t, c, open)
	refused("waits", 1)
	hear(t, c, node.Answer{ID: lastID(t, c), E: api.ErrLeader, Leader: 1})
	refused("is asked again", 2)
	id := lastID(t, c)
	tick(t, c, 1)
	refused("waits still", 2)
	hear(t, c, node.Answer{ID: id, E: api.ErrOver})
	refused("is done", 2)
	tick(t, c, 5)
	refused("is done still", 2)
	wantCalls(t, c)
	o, a := finish(t, c)
	if ordered(o) != ordered(open) || a.E != api.ErrOver {
		t.Errorf("%s, %s", ordered(o), told(a))
	}
	wantLooks(t, c, false, 0, 0, 2)
	wantNotDone(t, c)
	do(t, c, open)
}

// P1802: a Put without a session: ErrSession, and no seq is used up; other orders need none.
func TestDoSession(t *testing.T) {
	c := made(t, 1, []int{0, 1}, 2)
	for range 3 {
		wantErr(t, "Put", c.Do(client.Order{Kind: node.Put}), api.ErrSession)
		wantLooks(t, c, false, 0, 0, 0)
		wantCalls(t, c)
	}
	for kind := 1; kind <= 6; kind++ {
		if kind == node.Put {
			continue
		}
		c := made(t, 1, []int{0, 1}, 2)
		do(t, c, client.Order{Kind: kind})
		wantCalls(t, c, client.Call{To: 0, Ask: node.Ask{ID: 1000001, Kind: kind}})
	}
}

// P1807: the seqs of Puts go up by one, whatever came of them and between them, of a new session, too.
func TestSeq(t *testing.T) {
	c := inSession(t, 2, []int{0, 1}, 2)
	seq, session := 0, 9
	for k := range 300 {
		o := orders()[k*7%len(orders())]
		do(t, c, o)
		if o.Kind == node.Put {
			seq++
		}
		l := last(t, c)
		if o.Kind == node.Put && (l.Ask.Seq != seq || l.Ask.Session != session) || o.Kind != node.Put && (l.Ask.Seq != 0 || l.Ask.Session != 0) {
			t.Fatalf("%s, not the seq %d of %d", called([]client.Call{l}), seq, session)
		}
		tick(t, c, k%4)
		for _, x := range c.Calls() {
			l = x
		}
		a := node.Answer{ID: l.Ask.ID, E: api.Errno(k % 3 * 20), Session: 10 + k}
		hear(t, c, a)
		finish(t, c)
		if o.Kind == node.OpenSession && a.E == api.OK {
			session = a.Session
		}
		if c.Seq() != seq || c.Session() != session {
			t.Fatalf("seq %d of %d, not %d of %d", c.Seq(), c.Session(), seq, session)
		}
	}
}

// P1805: Calls tells all that was asked since, in order, once, however late it is asked.
func TestCalls(t *testing.T) {
	c := made(t, 5, []int{2, 3, 4}, 1)
	ask := func(tries, to, kind int) client.Call {
		return client.Call{To: to, Ask: node.Ask{ID: 5000000 + tries, Kind: kind}}
	}
	do(t, c, client.Order{Kind: node.Get})
	tick(t, c, 3)
	hear(t, c, node.Answer{ID: 5000004, E: api.ErrLeader, Leader: 4})
	hear(t, c, node.Answer{ID: 5000005, E: api.ErrNone})
	finish(t, c)
	do(t, c, client.Order{Kind: node.Trim})
	wantCalls(t, c, ask(1, 2, node.Get), ask(2, 3, node.Get), ask(3, 4, node.Get), ask(4, 2, node.Get), ask(5, 4, node.Get), ask(6, 4, node.Trim))
	wantCalls(t, c)
	tick(t, c, 1)
	wantCalls(t, c, ask(7, 2, node.Trim))
}

// Example: a client is sent on from one server to another one.
func Example() {
	c, _ := client.New(3, []int{0, 1}, 5)
	c.Do(client.Order{Kind: node.OpenSession})
	for _, x := range c.Calls() {
		fmt.Println(x.To, x.Ask.ID)
	}
	c.Heard(node.Answer{ID: 3000001, E: api.ErrLeader, Leader: 1})
	for _, x := range c.Calls() {
		fmt.Println(x.To, x.Ask.ID)
	}
	c.Heard(node.Answer{ID: 3000002, Session: 2})
	_, a, done := c.Done()
	fmt.Println(a.Session, done, c.Session())
	// Output:
	// 0 3000001
	// 1 3000002
	// 2 true 2
}
