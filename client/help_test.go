package client_test

import (
	"fmt"
	"hash/crc32"
	"strings"
	"testing"

	"hustings/api"
	"hustings/client"
	"hustings/node"
)

const (
	highest = 1<<63 - 1
	lowest  = -1 << 63
)

// again: the errors for which a client asks again at its next Tick.
var again = []api.Errno{api.ErrWait, api.ErrDown, api.ErrBusy, api.ErrEarly, api.ErrFull}

func made(t *testing.T, id int, servers []int, patience int) *client.Client {
	t.Helper()
	c, e := client.New(id, servers, patience)
	if e != api.OK || c == nil {
		t.Fatalf("New(%d, %v, %d): %v, error %d", id, servers, patience, c, e)
	}
	return c
}

// inSession: a Client that has the session 9, asks the first server, and asked once.
func inSession(t *testing.T, id int, servers []int, patience int) *client.Client {
	t.Helper()
	c := made(t, id, servers, patience)
	do(t, c, client.Order{Kind: node.OpenSession})
	hear(t, c, node.Answer{ID: lastID(t, c), Session: 9})
	finish(t, c)
	return c
}

func do(t *testing.T, c *client.Client, o client.Order) {
	t.Helper()
	wantErr(t, "Do "+ordered(o), c.Do(o), api.OK)
}

func hear(t *testing.T, c *client.Client, a node.Answer) {
	t.Helper()
	wantErr(t, "Heard "+told(a), c.Heard(a), api.OK)
}

func tick(t *testing.T, c *client.Client, n int) {
	t.Helper()
	for range n {
		wantErr(t, "Tick", c.Tick(), api.OK)
	}
}

// last: the one call that was not told yet.
func last(t *testing.T, c *client.Client) client.Call {
	t.Helper()
	l := c.Calls()
	if len(l) != 1 {
		t.Fatalf("not one call: %s", called(l))
	}
	return l[0]
}

func lastID(t *testing.T, c *client.Client) int {
	t.Helper()
	return last(t, c).Ask.ID
}

// finish: what came of the order that is done.
func finish(t *testing.T, c *client.Client) (client.Order, node.Answer) {
	t.Helper()
	o, a, ok := c.Done()
	if !ok {
		t.Fatal("no order is done")
	}
	return o, a
}

// wantAsked: one call, to that server, by the client of that id for that time.
func wantAsked(t *testing.T, c *client.Client, id, tries, to int) {
	t.Helper()
	if l := last(t, c); l.To != to || l.Ask.ID != id*1000000+tries || c.Tries() != tries {
		t.Fatalf("asked %s, %d tries; not of %d for the time %d of the client %d", called([]client.Call{l}), c.Tries(), to, tries, id)
	}
}

func wantCalls(t *testing.T, c *client.Client, want ...client.Call) {
	t.Helper()
	if l := c.Calls(); called(l) != called(want) {
		t.Fatalf("calls\n%s\nnot\n%s", called(l), called(want))
	}
}

func wantErr(t *testing.T, what string, e, want api.Errno) {
	t.Helper()
	if e != want {
		t.Fatalf("%s: error %d, not %d", what, e, want)
	}
}

func wantNotDone(t *testing.T, c *client.Client) {
	t.Helper()
	if o, a, ok := c.Done(); ok || ordered(o) != ordered(client.Order{}) || told(a) != told(node.Answer{}) {
		t.Fatalf("Done: %s, %s, %v", ordered(o), told(a), ok)
	}
}

func wantLooks(t *testing.T, c *client.Client, busy bool, session, seq, tries int) {
	t.Helper()
	if want := fmt.Sprint(busy, session, seq, tries); looks(c) != want {
		t.Fatalf("looks %s, not %s", looks(c), want)
	}
}

func looks(c *client.Client) string {
	return fmt.Sprint(c.Busy(), c.Session(), c.Seq(), c.Tries())
}

func ordered(o client.Order) string {
	return fmt.Sprintf("%d %d %d %s", o.Kind, o.From, o.Most, short(o.Data))
}

// short: bytes, or how many and their sum.
func short(b []byte) string {
	if len(b) > 20 {
		return fmt.Sprintf("%d bytes of %08x", len(b), crc32.ChecksumIEEE(b))
	}
	return fmt.Sprintf("%q", b)
}

func told(a node.Answer) string {
	return fmt.Sprintf("%d: E %d, session %d, number %d, %q, leader %d", a.ID, a.E, a.Session, a.Number, a.Records, a.Leader)
}

func called(l []client.Call) string {
	var s []string
	for _, x := range l {
		a := x.Ask
		s = append(s, fmt.Sprintf("to %d: ID %d, kind %d, session %d, seq %d, from %d, most %d, %s", x.To, a.ID, a.Kind, a.Session, a.Seq, a.From, a.Most, short(a.Data)))
	}
	return strings.Join(s, "\n")
}
