package client_test

import (
	"fmt"
	"slices"
	"testing"

	"hustings/api"
	"hustings/client"
	"hustings/node"
)

// P1803: ErrNone where no order waits, and of each ID but the last Call's; and nothing has changed.
func TestHeardNone(t *testing.T) {
	c := made(t, 2, []int{0, 1, 2}, 2)
	refused := func(what string, ids ...int) {
		t.Helper()
		was := looks(c)
		for _, id := range ids {
			for _, e := range append([]api.Errno{api.OK, api.ErrLeader, api.ErrNone, api.ErrSession}, again...) {
				wantErr(t, fmt.Sprint(what, " ", id), c.Heard(node.Answer{ID: id, E: e, Session: 5, Leader: 2}), api.ErrNone)
			}
		}
		if looks(c) != was {
			t.Fatalf("%s: %s, not %s", what, looks(c), was)
		}
		wantCalls(t, c)
	}
	others := []int{0, -1, 1, 2, 2000000, 1000001, 3000001, lowest, highest, -2000001}
	refused("no order", append(others, 2000001)...)
	do(t, c, client.Order{Kind: node.OpenSession})
	wantAsked(t, c, 2, 1, 0)
	refused("asked once", append(others, 2000002)...)
	tick(t, c, 2)
	wantAsked(t, c, 2, 2, 1)
	refused("asked twice", append(others, 2000001, 2000003)...)
	// The ticks that pass are the same as if nothing had been heard.
	tick(t, c, 1)
	refused("later", append(others, 2000001, 2000003)...)
	tick(t, c, 1)
	wantAsked(t, c, 2, 3, 2)
	hear(t, c, node.Answer{ID: 2000003, Session: 8})
	refused("done", append(others, 2000002, 2000003, 2000004)...)
	if _, a := finish(t, c); a.Session != 8 || c.Session() != 8 {
		t.Error(told(a))
	}
	refused("Done was asked", append(others, 2000002, 2000003, 2000004)...)
}

// P1803: ErrLeader: it asks the server that leads, if it knows that one, else the next one; its place is there, and nothing passed.
func TestLeader(t *testing.T) {
	servers := []int{1, 4, 9}
	for at, from := range servers {
		for _, leader := range []int{1, 4, 9, 0, 2, 8, 10, 15, 16, -1, -2, 3, lowest, highest} {
			for passed := range 4 {
				c := made(t, 6, servers, 4)
				do(t, c, client.Order{Kind: node.Get})
				tick(t, c, 4*at)
				l := c.Calls()
				if to := l[len(l)-1].To; to != from {
					t.Fatalf("it asks %d, not %d", to, from)
				}
				tick(t, c, passed)
				hear(t, c, node.Answer{ID: 6000001 + at, E: api.ErrLeader, Leader: leader})
				next := (at + 1) % 3
				if slices.Contains(servers, leader) {
					next = slices.Index(servers, leader)
				}
				wantAsked(t, c, 6, at+2, servers[next])
				wantNotDone(t, c)
				tick(t, c, 3)
				wantCalls(t, c)
				tick(t, c, 1)
				wantAsked(t, c, 6, at+3, servers[(next+1)%3])
			}
		}
	}
}

// P1803: where no other server is known, it asks the same one again.
func TestOneServer(t *testing.T) {
	c := made(t, 1, []int{3}, 2)
	do(t, c, client.Order{Kind: node.Get})
	wantAsked(t, c, 1, 1, 3)
	tries := 1
	for _, leader := range []int{3, -1, 0, 4, 3, 15} {
		hear(t, c, node.Answer{ID: 1000000 + tries, E: api.ErrLeader, Leader: leader})
		tries++
		wantAsked(t, c, 1, tries, 3)
	}
	tick(t, c, 2)
	wantAsked(t, c, 1, tries+1, 3)
	hear(t, c, node.Answer{ID: 1000001 + tries, E: api.ErrDown})
	tick(t, c, 1)
	wantAsked(t, c, 1, tries+2, 3)
}

// P1803: an error that passes: the next Tick asks the next server, however many ticks passed; until then nobody is asked, and an answer counts still.
func TestAgain(t *testing.T) {
	for _, e := range again {
		for patience := 1; patience <= 5; patience++ {
			for passed := range patience {
				for times := 1; times <= 3; times++ {
					c := made(t, 1, []int{0, 1}, patience)
					do(t, c, client.Order{Kind: node.Get})
					wantAsked(t, c, 1, 1, 0)
					tick(t, c, passed)
					for range times {
						// Who leads is of no use where the error is not that it does not lead.
						hear(t, c, node.Answer{ID: 1000001, E: e, Leader: 0, Session: 3, Number: 4})
					}
					wantCalls(t, c)
					wantNotDone(t, c)
					wantLooks(t, c, true, 0, 0, 1)
					if times == 3 {
						hear(t, c, node.Answer{ID: 1000001, Number: 3})
						finish(t, c)
						tick(t, c, 2*patience)
						wantCalls(t, c)
						continue
					}
					tick(t, c, 1)
					wantAsked(t, c, 1, 2, 1)
					// The one that is asked then has all the patience again.
					tick(t, c, patience-1)
					wantCalls(t, c)
					tick(t, c, 1)
					wantAsked(t, c, 1, 3, 0)
				}
			}
		}
	}
}

// P1803: behind an error that passes it may be sent on to who leads at once, by the same server's later answer.
func TestAgainThenLeader(t *testing.T) {
	c := made(t, 1, []int{0, 1, 2}, 3)
	do(t, c, client.Order{Kind: node.Get})
	wantAsked(t, c, 1, 1, 0)
	hear(t, c, node.Answer{ID: 1000001, E: api.ErrBusy})
	hear(t, c, node.Answer{ID: 1000001, E: api.ErrLeader, Leader: 2})
	wantAsked(t, c, 1, 2, 2)
	tick(t, c, 2)
	wantCalls(t, c)
	tick(t, c, 1)
	wantAsked(t, c, 1, 3, 0)
}

// P1803: any other error, and OK: the order is Done, with that Answer, whatever else it tells.
func TestEnds(t *testing.T) {
	numbers := []api.Errno{lowest, -1, highest, 1 << 40}
	for e := range api.Errno(100) {
		if e != api.ErrLeader && !slices.Contains(again, e) {
			numbers = append(numbers, e)
		}
	}
	for _, e := range numbers {
		for _, o := range orders() {
			c := inSession(t, 4, []int{0, 1}, 2)
			do(t, c, o)
			a := node.Answer{ID: lastID(t, c), E: e, Session: 12, Number: -3, Records: [][]byte{[]byte("a"), nil, []byte("b")}, Leader: 1}
			hear(t, c, a)
			if !c.Busy() {
				t.Fatal("not busy ahead of Done")
			}
			gotOrder, got := finish(t, c)
			if ordered(gotOrder) != ordered(o) || told(got) != told(a) {
				t.Fatalf("%s, %s; not %s, %s", ordered(gotOrder), told(got), ordered(o), told(a))
			}
			session := 9
			if e == api.OK && o.Kind == node.OpenSession {
				session = 12
			}
			wantLooks(t, c, false, session, c.Seq(), 2)
			wantNotDone(t, c)
			tick(t, c, 5)
			wantCalls(t, c)
		}
	}
}

// P1803: the session is the Answer's, whatever number that is; of 0 there is none again.
func TestSession(t *testing.T) {
	c := made(t, 1, []int{0}, 1)
	for _, s := range []int{5, 3, 1 << 40, -1, highest, lowest, 7, 0} {
		do(t, c, client.Order{Kind: node.OpenSession})
		hear(t, c, node.Answer{ID: lastID(t, c), Session: s})
		if c.Session() != s {
			t.Errorf("session %d, not %d", c.Session(), s)
		}
		finish(t, c)
		want := api.OK
		if s == 0 {
			want = api.ErrSession
		}
		wantErr(t, fmt.Sprint("Put in ", s), c.Do(client.Order{Kind: node.Put}), want)
		if want != api.OK {
			continue
		}
		if a := last(t, c).Ask; a.Session != s {
			t.Errorf("asked in %d, not %d", a.Session, s)
		}
		// A session that the servers do not know is told, and is the client's still.
		hear(t, c, node.Answer{ID: 1000000 + c.Tries(), E: api.ErrSession, Session: 99})
		finish(t, c)
		if c.Session() != s {
			t.Errorf("session %d, not %d", c.Session(), s)
		}
	}
}

// P1804: where patience ticks passed it asks the next server, again and again, behind the last the first.
func TestTick(t *testing.T) {
	for _, patience := range []int{1, 2, 3, 10, 1000} {
		for _, servers := range [][]int{{5}, {0, 1}, {2, 3, 5, 7, 11, 13, 15}} {
			c := made(t, 1000, servers, patience)
			tick(t, c, patience+1)
			do(t, c, client.Order{Kind: node.Trim, From: 3})
			for k := range 2*len(servers) + 1 {
				wantAsked(t, c, 1000, k+1, servers[k%len(servers)])
				tick(t, c, patience-1)
				wantCalls(t, c)
				tick(t, c, 1)
			}
		}
	}
}

// P1804: ticks without an order, and behind an answer, do not count for the next order; its place stays.
func TestIdleTicks(t *testing.T) {
	c := made(t, 1, []int{0, 1, 2}, 3)
	tick(t, c, 7)
	do(t, c, client.Order{Kind: node.Get})
	wantAsked(t, c, 1, 1, 0)
	tick(t, c, 3)
	wantAsked(t, c, 1, 2, 1)
	tick(t, c, 2)
	hear(t, c, node.Answer{ID: 1000002})
	tick(t, c, 7)
	finish(t, c)
	tick(t, c, 7)
	wantCalls(t, c)
	do(t, c, client.Order{Kind: node.Get})
	wantAsked(t, c, 1, 3, 1)
	tick(t, c, 2)
	wantCalls(t, c)
	tick(t, c, 1)
	wantAsked(t, c, 1, 4, 2)
}

// P1808: from any place, and however many ticks passed, all servers are asked within patience times their number of ticks.
func TestAll(t *testing.T) {
	for count := 1; count <= api.MaxServers; count++ {
		servers := []int{1, 3, 4, 8, 9, 14, 15}[:count]
		for patience := 1; patience <= 4; patience++ {
			for start := range count * patience {
				c := made(t, 1, servers, patience)
				do(t, c, client.Order{Kind: node.Get})
				tick(t, c, start)
				c.Calls()
				tick(t, c, patience*count)
				var asked []int
				for _, x := range c.Calls() {
					asked = append(asked, x.To)
				}
				slices.Sort(asked)
				if !slices.Equal(asked, servers) {
					t.Fatalf("%d servers, patience %d, %d ticks ahead: %v were asked", count, patience, start, asked)
				}
			}
		}
	}
}
