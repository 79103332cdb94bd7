package cluster_test

import (
	"bytes"
	"fmt"
	"testing"

	"hustings/api"
	"hustings/client"
	"hustings/cluster"
	"hustings/node"
)

// P2104: what Do refuses, in its order; nothing is begun then.
func TestDoErrors(t *testing.T) {
	c := led(t, usual(1, 1))
	for _, x := range []struct {
		w int
		o client.Order
		e api.Errno
	}{
		{1, client.Order{Kind: node.OpenSession}, api.ErrArg},
		{0, client.Order{}, api.ErrArg},
		{0, client.Order{Kind: 7}, api.ErrArg},
		{0, client.Order{Kind: lowest}, api.ErrArg},
		{0, client.Order{Kind: node.Trim}, api.ErrArg},
		{0, client.Order{Kind: node.Trim, From: 5}, api.ErrArg},
		{0, client.Order{Kind: node.Put}, api.ErrSession},
		{0, client.Order{Kind: node.Put, Data: make([]byte, api.MaxData+1)}, api.ErrArg},
		{0, get(-1, 0), api.ErrArg},
		{0, get(0, -1), api.ErrArg},
		{0, client.Order{Kind: node.Add, From: 16}, api.ErrArg},
		{0, client.Order{Kind: node.Drop, From: -1}, api.ErrArg},
	} {
		before := c.State()
		wantErr(t, fmt.Sprintf("Do of %d: %+v", x.w, x.o), c.Do(x.w, x.o), x.e)
		want(t, "Busy", c.Busy(0), false)
		wantErr(t, "Carry", c.Carry(0, true), api.ErrNone)
		if !bytes.Equal(c.State(), before) {
			t.Error("it changed something")
		}
	}
	do(t, c, 0, client.Order{Kind: node.OpenSession})
	wantErr(t, "Do of one that is busy", c.Do(0, client.Order{Kind: node.OpenSession}), api.ErrBusy)
	wantErr(t, "Do of a Trim of one that is busy", c.Do(0, client.Order{Kind: node.Trim}), api.ErrArg)
	wantErr(t, "Do of no order of one that is busy", c.Do(0, client.Order{}), api.ErrArg)
}

// P2104: each kind of order, and what comes of it.
func TestOrders(t *testing.T) {
	o := usual(3, 2)
	o.All = 4
	c := led(t, o)
	a := ended(t, c, 0, client.Order{Kind: node.OpenSession})
	want(t, "Session", c.Session(0), a.Session)
	want(t, "Session of the other one", c.Session(1), 0)
	want(t, "Number", ended(t, c, 0, put("x")).Number, 0)
	want(t, "Number", ended(t, c, 0, put("")).Number, 1)
	a = ended(t, c, 1, get(0, 9))
	want(t, "a Get", fmt.Sprintf("%d %d %q", a.Session, a.Number, a.Records), `0 2 ["x" ""]`)
	a = ended(t, c, 1, get(2, 9))
	want(t, "a Get from the end", fmt.Sprintf("%d %d %q", a.Session, a.Number, a.Records), `0 2 []`)
	refused(t, c, 1, get(3, 9), api.ErrRange)
	ended(t, c, 1, client.Order{Kind: node.Add, From: 3})
	refused(t, c, 0, client.Order{Kind: node.Add, From: 3}, api.ErrServer)
	settle(t, c, 20)
	want(t, "records", recordsOf(t, c, 3), "x,,")
	ended(t, c, 0, client.Order{Kind: node.Drop, From: 3})
	want(t, "servers", fmt.Sprint(serversOf(t, c, leader(t, c, 4))), "[0 1 2]")
}

// Words: a client has a number one more than its place, and its first server is the first node: so the IDs of what it asked tell.
func TestClients(t *testing.T) {
	c := led(t, usual(1, 8))
	for w := range 8 {
		want(t, "ID", ended(t, c, w, client.Order{Kind: node.OpenSession}).ID, (w+1)*1_000_000+1)
		want(t, "ID", ended(t, c, w, put("x")).ID, (w+1)*1_000_000+2)
	}
}

// P2104: a call waits till it is carried; it goes, and arrives or not.
func TestCarry(t *testing.T) {
	c := led(t, usual(1, 2))
	for _, arrives := range []bool{true, false} {
		wantErr(t, "Carry where none waits", c.Carry(0, arrives), api.ErrNone)
		wantErr(t, "Bring where none waits", c.Bring(0, arrives), api.ErrNone)
	}
	do(t, c, 0, client.Order{Kind: node.OpenSession})
	wantErr(t, "Carry of the other one", c.Carry(1, true), api.ErrNone)
	wantErr(t, "Bring of what is not asked yet", c.Bring(0, true), api.ErrNone)
	wantErr(t, "Carry", c.Carry(0, false), api.OK)
	wantErr(t, "Carry of what is lost", c.Carry(0, true), api.ErrNone)
	wantErr(t, "Bring of what is lost", c.Bring(0, true), api.ErrNone)
	again(t, c, 0)
	wantErr(t, "Carry", c.Carry(0, true), api.OK)
	wantErr(t, "Carry", c.Carry(0, true), api.ErrNone)
	wantErr(t, "Bring of the other one", c.Bring(1, true), api.ErrNone)
	want(t, "Busy", c.Busy(0), true)
	wantErr(t, "Bring", c.Bring(0, true), api.OK)
	want(t, "Busy", c.Busy(0), false)
	want(t, "Session", c.Session(0), 2)
	want(t, "Last", answered(c.Last(0)), "1000002: 0 2 0 [] leader 0")
	wantErr(t, "Bring", c.Bring(0, true), api.ErrNone)
}

// again: a client loses its patience, and only then asks again.
func again(t *testing.T, c *cluster.Cluster, w int) {
	t.Helper()
	for range 20 {
		wantErr(t, "Carry ahead of its patience's end", c.Carry(w, true), api.ErrNone)
		wantErr(t, "Wait", c.Wait(w), api.OK)
	}
}

// P2104: an answer waits till it is brought; it goes, and arrives or not.
func TestBring(t *testing.T) {
	c := inSession(t, usual(1, 1))
	do(t, c, 0, put("x"))
	wantErr(t, "Carry", c.Carry(0, true), api.OK)
	wantErr(t, "Bring", c.Bring(0, false), api.OK)
	wantErr(t, "Bring of what is lost", c.Bring(0, true), api.ErrNone)
	want(t, "Busy", c.Busy(0), true)
	want(t, "Last", c.Last(0).Session, 2)
	again(t, c, 0)
	wantErr(t, "Carry", c.Carry(0, true), api.OK)
	wantErr(t, "Bring", c.Bring(0, true), api.OK)
	want(t, "Last", answered(c.Last(0)), "1000003: 0 0 0 [] leader 0")
	// It counted once.
	want(t, "records", recordsOf(t, c, 0), "x,")
}

// P2104: rows are in order; an answer to an elder call goes, but is not heard.
func TestRows(t *testing.T) {
	c := inSession(t, usual(1, 1))
	do(t, c, 0, put("x"))
	for range 40 {
		wantErr(t, "Wait", c.Wait(0), api.OK)
	}
	for range 3 {
		wantErr(t, "Carry", c.Carry(0, true), api.OK)
	}
	wantErr(t, "Carry", c.Carry(0, true), api.ErrNone)
	for k := range 3 {
		want(t, fmt.Sprint("Busy behind the answer ", k), c.Busy(0), true)
		wantErr(t, "Bring", c.Bring(0, true), api.OK)
	}
	want(t, "Busy", c.Busy(0), false)
	want(t, "Last", answered(c.Last(0)), "1000004: 0 0 0 [] leader 0")
	want(t, "records", recordsOf(t, c, 0), "x,")
}

// P2104: where its node does not run a call is lost; clients go round all nodes, servers or not.
func TestRound(t *testing.T) {
	o := usual(1, 1)
	o.All = 3
	c := led(t, o)
	c.Crash(0)
	do(t, c, 0, client.Order{Kind: node.OpenSession})
	wantErr(t, "Carry to one that does not run", c.Carry(0, true), api.OK)
	wantErr(t, "Bring", c.Bring(0, true), api.ErrNone)
	again(t, c, 0)
	for n := 1; n < 3; n++ {
		wantErr(t, fmt.Sprint("Carry to ", n), c.Carry(0, true), api.OK)
		// It does not lead, and knows nobody who does: the client asks the next one at once.
		wantErr(t, "Bring", c.Bring(0, true), api.OK)
		want(t, "Busy", c.Busy(0), true)
	}
	wantErr(t, "Start", c.Start(0, nil, 0), api.OK)
	tick(t, c, 0, 8)
	wantErr(t, "Carry", c.Carry(0, true), api.OK)
	wantErr(t, "Bring", c.Bring(0, true), api.OK)
	want(t, "Last", answered(c.Last(0)), "1000004: 0 3 0 [] leader 0")
}

// P2104: no time passes for who has no order.
func TestWaitIdle(t *testing.T) {
	c := led(t, usual(1, 1))
	before := c.State()
	for range 100 {
		wantErr(t, "Wait", c.Wait(0), api.OK)
	}
	wantErr(t, "Carry", c.Carry(0, true), api.ErrNone)
	if !bytes.Equal(c.State(), before) {
		t.Error("it changed something")
	}
	do(t, c, 0, client.Order{Kind: node.OpenSession})
	c.Carry(0, false)
	again(t, c, 0)
	wantErr(t, "Carry", c.Carry(0, true), api.OK)
}

// P2104: Last is that of the order that ended last, with its error.
func TestLast(t *testing.T) {
	c := led(t, usual(1, 2))
	want(t, "Last of none", answered(c.Last(0)), "0: 0 0 0 [] leader 0")
	refused(t, c, 0, get(5, 5), api.ErrRange)
	want(t, "Last of a Get that was refused", answered(c.Last(0)), "1000001: 11 0 0 [] leader 0")
	ended(t, c, 0, client.Order{Kind: node.OpenSession})
	ended(t, c, 0, put("x"))
	ended(t, c, 0, get(0, 5))
	for range 2 {
		want(t, "Last of a Get", answered(c.Last(0)), `1000004: 0 0 1 ["x"] leader 0`)
	}
	do(t, c, 0, put("y"))
	want(t, "Last while one waits", answered(c.Last(0)), `1000004: 0 0 1 ["x"] leader 0`)
	want(t, "Last of the other one", answered(c.Last(1)), "0: 0 0 0 [] leader 0")
}

// P2104: rounds that may not be, and none.
func TestSettleErrors(t *testing.T) {
	c := led(t, usual(3, 1))
	do(t, c, 0, client.Order{Kind: node.OpenSession})
	before := c.State()
	for _, rounds := range []int{-1, 2001, lowest, highest} {
		wantErr(t, fmt.Sprint("Settle of ", rounds), c.Settle(rounds), api.ErrArg)
	}
	wantErr(t, "Settle of none", c.Settle(0), api.OK)
	if !bytes.Equal(c.State(), before) {
		t.Error("it changed something")
	}
	wantErr(t, "Settle of all", c.Settle(2000), api.OK)
	want(t, "Busy", c.Busy(0), false)
}

// late: one where the nodes 1 to 3 lack a snapshot of more than 800 pieces, each of which is answered, and 4 has crashed; a letter to it was doubled so often.
func late(t *testing.T, double int) *cluster.Cluster {
	t.Helper()
	o := usual(7, 1)
	o.Keep = 1
	c := inSession(t, o)
	want(t, "leader", leader(t, c, 7), 0)
	for n := 1; n < 4; n++ {
		c.Crash(n)
	}
	for k := range 52 {
		ended(t, c, 0, client.Order{Kind: node.Put, Data: make([]byte, min(api.MaxData, 800+k*100))})
	}
	for n := range 5 {
		c.Start(n, nil, 2*n)
	}
	c.Crash(4)
	for c.Waiting() > 0 {
		wantErr(t, "Lose", c.Lose(0), api.OK)
	}
	for c.Waiting() == 0 {
		tick(t, c, 0, 1)
	}
	for range double {
		wantErr(t, "Double", c.Double(3), api.OK)
	}
	return c
}

// arrived: how many of the nodes 1 to 3 have the snapshot.
func arrived(c *cluster.Cluster) int {
	count := 0
	for n := 1; n < 4; n++ {
		if l, _ := c.Records(n); len(l) > 40 {
			count++
		}
	}
	return count
}

// P2104: in one round at most 5000 letters are delivered.
func TestSettleBound(t *testing.T) {
	c, needed := late(t, 0), 0
	for arrived(c) == 0 {
		deliver(t, c, 1)
		needed++
	}
	deliver(t, c, 2)
	want(t, "arrived one behind the other", arrived(c), 3)
	if needed > 4999 {
		t.Fatal("it takes more letters than one round has")
	}
	c = late(t, 4999-needed)
	settle(t, c, 1)
	want(t, "arrived by 5000 letters", arrived(c), 2)
	settle(t, c, 1)
	want(t, "arrived by more", arrived(c), 3)
}
