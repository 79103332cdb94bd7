package cluster

import (
	"maps"
	"slices"

	"hustings/api"
	"hustings/history"
	"hustings/net"
)

// state: all of it, by looks, and by the stories of those that keep something for themselves.
func (c *Cluster) state() text {
	o := c.options
	t := text("cluster").numbers(o.Servers, o.All, o.Clients, o.Keep, o.Span, o.Quota, c.moment)
	for _, h := range c.hosts {
		t = h.tell(append(t, "\nnode"...))
	}
	t = tellNet(append(t, "\nnet"...), c.net)
	for w, a := range c.askers {
		t = a.tell(append(t, "\nclient"...))
		if x, is := c.orders[w]; is {
			t = t.numbers(x.Begin)
		}
	}
	for _, x := range c.past {
		t = tellCall(append(t, "\norder"...), x)
	}
	return append(t, "\nrecords"...).rows(c.records)
}

// tell: the node, while it runs, and what its disk has.
func (h *host) tell(t text) text {
	t = t.numbers(int(h.story)).yes(h.runs())
	if h.runs() {
		vote, log := h.Vote(), h.View()
		t = t.numbers(h.Role(), h.Term(), h.Leader(), h.Commit(), h.Applied(), vote.Term, vote.For)
		t = t.list(h.Servers()).numbers(log.Base, log.Term).entries(log.L).rows(h.records(0))
		for _, id := range slices.Sorted(maps.Keys(h.asked)) {
			t = t.numbers(id, h.asked[id])
		}
	}
	for _, name := range h.disk.List() {
		b, _ := h.disk.Read(name)
		t = t.bytes([]byte(name), b)
	}
	return t
}

func (a *asker) tell(t text) text {
	t = t.numbers(int(a.story), a.Session(), a.Seq(), a.Tries()).yes(a.Busy()).answer(a.last)
	t = t.numbers(len(a.calls))
	for _, x := range a.calls {
		t = t.numbers(x.To).ask(x.Ask)
	}
	t = t.numbers(len(a.answers))
	for _, x := range a.answers {
		t = t.answer(x)
	}
	return t
}

// tellNet: the letters, and the wall by who is on the other side of it than the first server.
func tellNet(t text, n *net.Net) text {
	for id := range api.MaxID {
		t = t.yes(n.Open(net.Letter{To: id}))
	}
	for k := range n.Len() {
		l, _ := n.Look(k)
		t = t.numbers(l.From, l.To).bytes(l.B)
	}
	return t
}

func tellCall(t text, x *history.Call) text {
	return t.numbers(x.Begin, x.End, x.Kind, x.From, x.Most, x.Number, x.Start).bytes(x.Data).rows(x.Records)
}
