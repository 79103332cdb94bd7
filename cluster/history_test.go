package cluster_test

import (
	"fmt"
	"strings"
	"testing"

	"hustings/api"
	"hustings/client"
	"hustings/cluster"
	"hustings/history"
	"hustings/node"
)

// wantHistory: each call in short: client, begin, end, kind, at, whether it was answered; and that it is that of one log.
func wantHistory(t *testing.T, c *cluster.Cluster, lines ...string) {
	t.Helper()
	var l []string
	h := c.History()
	for _, x := range h {
		l = append(l, fmt.Sprint(x.Client, x.Begin, x.End, x.Kind, x.At, x.Answered))
	}
	want(t, "history", strings.Join(l, "\n"), strings.Join(lines, "\n"))
	if at, e := history.Legal(h, history.Order(h)); e != api.OK {
		t.Fatalf("history: error %d at %d", e, at)
	}
}

// lost: an order that counts, whose answer is lost; its client does not end it.
func lost(t *testing.T, c *cluster.Cluster, w int, o client.Order) {
	t.Helper()
	do(t, c, w, o)
	wantErr(t, "Carry", c.Carry(w, true), api.OK)
	wantErr(t, "Bring", c.Bring(w, false), api.OK)
}

// unheard: an order that does not count, since its call is lost.
func unheard(t *testing.T, c *cluster.Cluster, w int, o client.Order) {
	t.Helper()
	do(t, c, w, o)
	wantErr(t, "Carry", c.Carry(w, false), api.OK)
}

// P2106: Puts and Gets, in the order in which they were begun; all orders, of other kinds too, make moments.
func TestHistory(t *testing.T) {
	o := usual(1, 3)
	o.All = 2
	c := inSession(t, o) // six moments
	wantHistory(t, c)
	ended(t, c, 0, put("x"))
	do(t, c, 1, put("y"))
	ended(t, c, 2, client.Order{Kind: node.Add, From: 1})
	ended(t, c, 0, get(0, 1))
	refused(t, c, 0, client.Order{Kind: node.Drop, From: 5}, api.ErrServer)
	do(t, c, 0, get(1, 5))
	wantHistory(t, c,
		"0 7 8 1 1 true",
		"1 9 11 1 3 true",
		"2 13 14 2 4 true",
		"3 17 0 2 0 false",
	)
	h := c.History()
	want(t, "a Put", called(h[0]), `client 0, 7 to 8, kind 1 at 1, true: from 0 most 0 number 0 start 0 "x" []`)
	want(t, "a Get", called(h[2]), `client 2, 13 to 14, kind 2 at 4, true: from 0 most 1 number 2 start 0 "" ["x"]`)
	want(t, "a Get that waits", called(h[3]), `client 3, 17 to 0, kind 2 at 0, false: from 1 most 5 number 0 start 0 "" []`)
	settle(t, c, 10)
	want(t, "it, answered", called(c.History()[3]), `client 3, 17 to 18, kind 2 at 4, true: from 1 most 5 number 2 start 0 "" ["y"]`)
}

// P2106: what a kind has no use for is not told.
func TestHistoryUseless(t *testing.T) {
	c := inSession(t, usual(1, 1))
	ended(t, c, 0, client.Order{Kind: node.Put, From: 5, Most: 6, Data: []byte("x")})
	ended(t, c, 0, client.Order{Kind: node.Get, From: 0, Most: highest, Data: []byte("y")})
	h := c.History()
	want(t, "a Put", called(h[0]), `client 0, 3 to 4, kind 1 at 1, true: from 0 most 0 number 0 start 0 "x" []`)
	want(t, "a Get", called(h[1]), fmt.Sprintf(`client 1, 5 to 6, kind 2 at 2, true: from 0 most %d number 1 start 0 "" ["x"]`, highest))
}

// P2106: an order that ended with an error is not answered; its end makes a moment.
func TestHistoryRefused(t *testing.T) {
	o := usual(1, 2)
	o.Span = 2
	c := inSession(t, o)                       // the sessions 2 and 3
	refused(t, c, 0, put("x"), api.ErrSession) // at 4
	refused(t, c, 1, get(9, 9), api.ErrRange)
	refused(t, c, 1, put("x"), api.ErrSession) // at 5
	want(t, "Last", c.Last(1).E, api.ErrSession)
	ended(t, c, 0, client.Order{Kind: node.OpenSession})
	ended(t, c, 0, put("x"))
	wantHistory(t, c,
		"0 5 0 1 0 false",
		"1 7 0 2 0 false",
		"2 9 0 1 0 false",
		"3 13 14 1 1 true",
	)
	want(t, "a Get that was refused", called(c.History()[1]), `client 1, 7 to 0, kind 2 at 0, false: from 9 most 9 number 0 start 0 "" []`)
}

// P2106: a Put that is not answered counts at a record of its bytes, if there is one that no answered Put has.
func TestHistoryLost(t *testing.T) {
	c := inSession(t, usual(1, 4)) // eight moments
	lost(t, c, 0, put("x"))
	unheard(t, c, 1, put("y"))
	wantHistory(t, c, "0 9 0 1 1 false", "1 10 0 1 0 false")
	ended(t, c, 3, put("y"))
	// The record is that of the Put that was answered, and of no other one.
	wantHistory(t, c, "0 9 13 1 1 true", "1 10 14 1 5 true", "2 11 12 1 3 true")
}

// P2106: of Puts of the same bytes the first ones that are left have the records, by rising numbers.
func TestHistoryAlike(t *testing.T) {
	c := inSession(t, usual(1, 8)) // 16 moments
	unheard(t, c, 0, put("x"))
	lost(t, c, 1, put("x")) // the record 0
	lost(t, c, 2, put("z")) // 1
	unheard(t, c, 3, put("z"))
	do(t, c, 4, put("x")) // 2
	c.Carry(4, true)
	c.Bring(4, true)
	lost(t, c, 5, put("x")) // 3
	unheard(t, c, 6, put("x"))
	unheard(t, c, 7, put(""))
	wantHistory(t, c,
		"0 17 0 1 1 false",
		"1 18 0 1 7 false",
		"2 19 0 1 3 false",
		"3 20 0 1 0 false",
		"4 21 22 1 5 true",
		"5 23 0 1 0 false",
		"6 24 0 1 0 false",
		"7 25 0 1 0 false",
	)
	want(t, "records", recordsOf(t, c, 0), "x,z,x,x,")
}

// P2106: empty bytes are bytes like others.
func TestHistoryEmpty(t *testing.T) {
	c := inSession(t, usual(1, 2))
	lost(t, c, 0, client.Order{Kind: node.Put, Data: []byte{}})
	lost(t, c, 1, client.Order{Kind: node.Put})
	wantHistory(t, c, "0 5 0 1 1 false", "1 6 0 1 3 false")
}

// P2106: a record that a node had counts, though none has it now.
func TestHistoryHad(t *testing.T) {
	c := inSession(t, usual(1, 1))
	lost(t, c, 0, put("x"))
	c.Crash(0)
	wantHistory(t, c, "0 3 0 1 1 false")
	wantErr(t, "Start", c.Start(0, nil, 0), api.OK)
	want(t, "records", recordsOf(t, c, 0), "")
	wantHistory(t, c, "0 3 0 1 1 false")
}

// P2106: so does one that a node had when it went down with it.
func TestHistoryWentDown(t *testing.T) {
	o := usual(1, 1)
	o.Keep = 4
	seen := false
	for fuse := range 20 {
		c := inSession(t, o)
		ended(t, c, 0, put("x")) // at 3
		wantErr(t, "Cut", c.Cut(0, fuse), api.OK)
		do(t, c, 0, put("y")) // at 4, where a snapshot is taken
		wantErr(t, "Carry", c.Carry(0, true), api.OK)
		if c.Up(0) {
			break
		}
		at := c.History()[1].At
		seen = seen || at == 3
		wantErr(t, "Start", c.Start(0, []int{0, 0, 0, 0}, 0), api.OK)
		tick(t, c, 0, 8)
		if had := recordsOf(t, c, 0) == "x,y,"; at != 0 && !had || at != 0 && at != 3 {
			t.Fatalf("fuse %d: it counted at %d, but the records are %s", fuse, at, recordsOf(t, c, 0))
		}
	}
	want(t, "a node that went down when it had the record", seen, true)
}

// P2106: a record counts from the moment at which some node has it, whichever that is; one that comes from a snapshot, too.
func TestHistorySomeNode(t *testing.T) {
	c := inSession(t, usual(3, 1))
	lead := leader(t, c, 3)
	for c.Waiting() > 0 {
		wantErr(t, "Lose", c.Lose(0), api.OK)
	}
	c.Settle(4)
	do(t, c, 0, put("x"))
	for c.Carry(0, true) == api.OK && c.Bring(0, true) == api.OK {
	}
	want(t, "records ahead of a round", recordsOf(t, c, lead), "")
	wantHistory(t, c, "0 3 0 1 0 false")
	for recordsOf(t, c, lead) == "" {
		if c.Waiting() == 0 {
			tick(t, c, lead, 1)
			continue
		}
		wantHistory(t, c, "0 3 0 1 0 false")
		deliver(t, c, 1)
	}
	wantHistory(t, c, "0 3 0 1 1 false")
	wantErr(t, "Bring", c.Bring(0, true), api.OK)
	wantHistory(t, c, "0 3 4 1 1 true")
}
