package cluster_test

import (
	"bytes"
	"fmt"
	"testing"

	"hustings/api"
	"hustings/client"
	"hustings/cluster"
	"hustings/history"
	"hustings/node"
	"hustings/watch"
	"hustings/wire"
)

const (
	highest = 1<<63 - 1
	lowest  = -1 << 63
)

// noPlaces: numbers that neither nodes nor clients of a cluster of all have.
func noPlaces(all int) []int {
	return []int{-1, lowest, all, all + 1, 1 << 32, highest}
}

// usual: so many nodes, which agree at first, and so many clients; snapshots are rare, disks are big.
func usual(servers, clients int) cluster.Options {
	return cluster.Options{Servers: servers, All: servers, Clients: clients, Keep: 1000, Span: 1 << 20, Quota: api.MaxBytes}
}

func made(t *testing.T, o cluster.Options) *cluster.Cluster {
	t.Helper()
	c, e := cluster.New(o)
	if e != api.OK || c == nil {
		t.Fatalf("New(%+v): %v, error %d", o, c, e)
	}
	return c
}

// led: one in which somebody leads.
func led(t *testing.T, o cluster.Options) *cluster.Cluster {
	t.Helper()
	c := made(t, o)
	settle(t, c, 30)
	leader(t, c, o.All)
	return c
}

// inSession: one in which somebody leads, and all clients have a session.
func inSession(t *testing.T, o cluster.Options) *cluster.Cluster {
	t.Helper()
	c := led(t, o)
	for w := range o.Clients {
		ended(t, c, w, client.Order{Kind: node.OpenSession})
	}
	return c
}

// leader: of those that lead, the one of the highest term.
func leader(t *testing.T, c *cluster.Cluster, all int) int {
	t.Helper()
	id, term := -1, -1
	for n := range all {
		if s, ok := c.Seen(n); ok && s.Leads && s.Term > term {
			id, term = n, s.Term
		}
	}
	if id < 0 {
		t.Fatal("nobody leads")
	}
	return id
}

func settle(t *testing.T, c *cluster.Cluster, rounds int) {
	t.Helper()
	wantErr(t, "Settle", c.Settle(rounds), api.OK)
}

func tick(t *testing.T, c *cluster.Cluster, n, times int) {
	t.Helper()
	for range times {
		wantErr(t, fmt.Sprint("Tick of ", n), c.Tick(n, 0), api.OK)
	}
}

// deliver: the first letters, so many.
func deliver(t *testing.T, c *cluster.Cluster, times int) {
	t.Helper()
	for range times {
		wantErr(t, "Deliver", c.Deliver(0, 0), api.OK)
	}
}

func do(t *testing.T, c *cluster.Cluster, w int, o client.Order) {
	t.Helper()
	wantErr(t, fmt.Sprintf("Do of %d: %+v", w, o), c.Do(w, o), api.OK)
}

// ended: an order that ends with OK: its answer.
func ended(t *testing.T, c *cluster.Cluster, w int, o client.Order) node.Answer {
	t.Helper()
	return refused(t, c, w, o, api.OK)
}

// refused: an order that ends with that error: its answer.
func refused(t *testing.T, c *cluster.Cluster, w int, o client.Order, e api.Errno) node.Answer {
	t.Helper()
	do(t, c, w, o)
	settle(t, c, 100)
	a := c.Last(w)
	if c.Busy(w) || a.E != e {
		t.Fatalf("%+v of client %d: busy %v, %s, want error %d", o, w, c.Busy(w), answered(a), e)
	}
	return a
}

func put(text string) client.Order {
	return client.Order{Kind: node.Put, Data: []byte(text)}
}

func get(from, most int) client.Order {
	return client.Order{Kind: node.Get, From: from, Most: most}
}

// serversOf: those of a node's log.
func serversOf(t *testing.T, c *cluster.Cluster, n int) []int {
	t.Helper()
	s, ok := c.Seen(n)
	if !ok {
		t.Fatalf("node %d does not run", n)
	}
	l := c.Base(n)
	for _, x := range s.View.L {
		if x.Kind == api.Servers {
			l, _ = wire.GetServers(x.Data)
		}
	}
	return l
}

// recordsOf: as one text, with a comma behind each.
func recordsOf(t *testing.T, c *cluster.Cluster, n int) string {
	t.Helper()
	l, ok := c.Records(n)
	if !ok {
		t.Fatalf("node %d does not run", n)
	}
	return joined(l)
}

func joined(l [][]byte) string {
	text := ""
	for _, b := range l {
		text += string(b) + ","
	}
	return text
}

// looks: all that the cluster tells but its State, as text.
func looks(c *cluster.Cluster, o cluster.Options) string {
	var b bytes.Buffer
	for n := range o.All {
		fmt.Fprintf(&b, "node %d: %v %s\n", n, c.Up(n), nodeLooks(c, n))
	}
	fmt.Fprintf(&b, "letters: %d\n", c.Waiting())
	for w := range o.Clients {
		fmt.Fprintf(&b, "client %d: %v %d %s\n", w, c.Busy(w), c.Session(w), answered(c.Last(w)))
	}
	for _, x := range c.History() {
		fmt.Fprintf(&b, "call: %s\n", called(x))
	}
	return b.String()
}

func nodeLooks(c *cluster.Cluster, n int) string {
	s, ok := c.Seen(n)
	l, has := c.Records(n)
	return fmt.Sprintf("%v %d %d %d %v %s %v %v %q", ok, s.ID, s.Term, s.Commit, s.Leads, viewed(s), c.Base(n), has, l)
}

func answered(a node.Answer) string {
	return fmt.Sprintf("%d: %d %d %d %q leader %d", a.ID, a.E, a.Session, a.Number, a.Records, a.Leader)
}

func called(x history.Call) string {
	return fmt.Sprintf("client %d, %d to %d, kind %d at %d, %v: from %d most %d number %d start %d %q %q",
		x.Client, x.Begin, x.End, x.Kind, x.At, x.Answered, x.From, x.Most, x.Number, x.Start, x.Data, x.Records)
}

func wantErr(t *testing.T, what string, got, want api.Errno) {
	t.Helper()
	if got != want {
		t.Fatalf("%s: error %d, want %d", what, got, want)
	}
}

func want[T comparable](t *testing.T, what string, got, want T) {
	t.Helper()
	if got != want {
		t.Fatalf("%s: %v, want %v", what, got, want)
	}
}

// viewed: a log in short: its base, and its entries.
func viewed(s watch.Seen) string {
	var l []string
	for _, x := range s.View.L {
		l = append(l, fmt.Sprintf("%d/%d/%d<%s>", x.Index, x.Term, x.Kind, x.Data))
	}
	return fmt.Sprint(s.View.Base, s.View.Term, l)
}
