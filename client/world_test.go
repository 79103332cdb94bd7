package client_test

import (
	"fmt"
	"math/rand"
	"testing"

	"hustings/api"
	"hustings/client"
	"hustings/message"
	"hustings/node"
	"hustings/vdisk"
)

// world: clients that ask nodes; calls and answers come late, twice or never, and nodes are cut off for some time.
type world struct {
	t       *testing.T
	rnd     *rand.Rand
	nodes   []*node.Node
	cut     int // the node that hears nothing now; -1: none
	clients []*client.Client
	calls   []client.Call
	answers []node.Answer
	told    []string // by the records' numbers: what was put, as the client was told
	puts    int
}

func newWorld(t *testing.T, seed int64) *world {
	w := &world{t: t, rnd: rand.New(rand.NewSource(seed)), cut: -1}
	servers := []int{0, 1, 2}
	o := node.Options{Least: 7, Beat: 2, Chunk: 100, Span: 1 << 30, Keep: 20}
	for id := range servers {
		d, e := vdisk.New(api.MaxBytes)
		wantErr(t, "vdisk.New", e, api.OK)
		n, e := node.Open(o, id, servers, d, id)
		wantErr(t, "node.Open", e, api.OK)
		w.nodes = append(w.nodes, n)
	}
	for id := range 3 {
		w.clients = append(w.clients, made(t, id+1, servers, 4+3*id))
	}
	return w
}

// deliver: all letters arrive, and those that come of them, but for those of the node that is cut off.
func (w *world) deliver() {
	for more := true; more; {
		more = false
		for id, n := range w.nodes {
			for _, b := range n.Messages() {
				m, e := message.Get(b)
				wantErr(w.t, "message.Get", e, api.OK)
				if id != w.cut && m.To != w.cut {
					more = true
					w.nodes[m.To].Step(b, w.rnd.Int())
				}
			}
			w.answers = append(w.answers, n.Answers()...)
		}
	}
}

// order: what a client is to do next. What it puts is like nothing else that is put.
func (w *world) order(c *client.Client, id int) client.Order {
	if c.Session() == 0 {
		return client.Order{Kind: node.OpenSession}
	}
	if w.rnd.Intn(4) == 0 {
		return client.Order{Kind: node.Get, Most: 1000}
	}
	return client.Order{Kind: node.Put, Data: fmt.Appendf(nil, "%d/%d", id, c.Seq()+1)}
}

// round: all that may befall them once; with storm, by chance.
func (w *world) round(storm bool) {
	befalls := func() bool { return storm && w.rnd.Intn(3) == 0 }
	for id, c := range w.clients {
		wantErr(w.t, "Tick", c.Tick(), api.OK)
		if storm && !c.Busy() {
			do(w.t, c, w.order(c, id))
		}
		w.calls = append(w.calls, c.Calls()...)
	}
	calls := w.calls
	w.calls = nil
	for _, x := range calls {
		switch {
		case befalls():
		case befalls():
			w.calls = append(w.calls, x)
		default:
			w.nodes[x.To].Ask(x.Ask)
			if befalls() {
				w.calls = append(w.calls, x)
			}
		}
	}
	w.deliver()
	answers := w.answers
	w.answers = nil
	for _, a := range answers {
		switch {
		case befalls():
		case befalls():
			w.answers = append(w.answers, a)
		default:
			w.bring(a)
			if befalls() {
				w.answers = append(w.answers, a)
			}
		}
	}
	for _, n := range w.nodes {
		if !storm || w.rnd.Intn(5) > 0 {
			wantErr(w.t, "Tick", n.Tick(w.rnd.Int()), api.OK)
		}
	}
	w.deliver()
}

// bring: an answer to the client that asked. What it is told at last must go with all that was told before.
func (w *world) bring(a node.Answer) {
	w.t.Helper()
	c := w.clients[a.ID/1000000-1]
	c.Heard(a)
	o, a, done := c.Done()
	if !done {
		return
	}
	if o.Kind == node.OpenSession && a.E == api.ErrSession {
		return // there are 16, since it was asked so often
	}
	wantErr(w.t, "the end of "+ordered(o), a.E, api.OK)
	switch o.Kind {
	case node.Put:
		w.puts++
		for len(w.told) <= a.Number {
			w.told = append(w.told, "")
		}
		if was := w.told[a.Number]; was != "" {
			w.t.Fatalf("the record %d is %s, but %s was told", a.Number, was, o.Data)
		}
		w.told[a.Number] = string(o.Data)
	case node.Get:
		for k, b := range a.Records {
			if k < len(w.told) && w.told[k] != "" && w.told[k] != string(b) {
				w.t.Fatalf("a Get tells the record %d as %s, but %s was told", k, b, w.told[k])
			}
		}
	}
}

// check: each put makes one record at most, and that which its client was told.
func (w *world) check() {
	w.t.Helper()
	records, e := w.nodes[0].Read(0, 100000)
	wantErr(w.t, "Read", e, api.OK)
	seen := map[string]int{}
	for k, b := range records {
		if at, twice := seen[string(b)]; twice {
			w.t.Fatalf("%s is the record %d and %d", b, at, k)
		}
		seen[string(b)] = k
		if k < len(w.told) && w.told[k] != "" && w.told[k] != string(b) {
			w.t.Fatalf("the record %d is %s, but %s was told", k, b, w.told[k])
		}
	}
	if len(records) < len(w.told) {
		w.t.Fatalf("%d records, but %d was told", len(records), len(w.told)-1)
	}
}

// P1, P2, P8: nodes that are asked again and again, whatever befell what was asked and answered, do each put once, and each order ends.
func TestNodes(t *testing.T) {
	puts, tries := 0, 0
	for seed := range int64(20) {
		w := newWorld(t, seed)
		for k := range 500 {
			if k%20 == 0 {
				w.cut = w.rnd.Intn(6) - 3
			}
			w.round(true)
		}
		w.cut = -1
		for range 100 {
			w.round(false)
		}
		for _, c := range w.clients {
			if c.Busy() {
				t.Fatalf("seed %d: an order has not ended", seed)
			}
			tries += c.Tries()
		}
		w.check()
		puts += w.puts
	}
	if puts < 500 || tries < 3*puts/2 {
		t.Errorf("only %d puts of %d calls: too little befell them", puts, tries)
	}
}
