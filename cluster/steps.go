package cluster

import (
	"hustings/api"
	"hustings/message"
	"hustings/net"
	"hustings/node"
)

// do: the steps of a call, up to the one that gives up, if one does.
func (c *Cluster) do(steps func()) (e api.Errno) {
	defer func() {
		switch why := recover().(type) {
		case nil:
		case api.Errno:
			e = why
		default:
			panic(why)
		}
	}()
	if !c.made() {
		giveUp(api.ErrArg)
	}
	steps()
	return api.OK
}

// giveUp: the call ends here, with that error.
func giveUp(e api.Errno) {
	panic(e)
}

// must: gives up, unless a step was done.
func must(e api.Errno) {
	if e != api.OK {
		giveUp(e)
	}
}

// host: of a node; none, if there is no such one.
func (c *Cluster) host(n int) *host {
	if !c.made() || n < 0 || n >= len(c.hosts) {
		return nil
	}
	return c.hosts[n]
}

func (c *Cluster) mustHost(n int) *host {
	h := c.host(n)
	if h == nil {
		giveUp(api.ErrArg)
	}
	return h
}

// running: the host of a node that runs.
func (c *Cluster) running(n int) *host {
	h := c.mustHost(n)
	if !h.runs() {
		giveUp(api.ErrDown)
	}
	return h
}

// asker: of a client; none, if there is no such one.
func (c *Cluster) asker(w int) *asker {
	if !c.made() || w < 0 || w >= len(c.askers) {
		return nil
	}
	return c.askers[w]
}

func (c *Cluster) mustAsker(w int) *asker {
	a := c.asker(w)
	if a == nil {
		giveUp(api.ErrArg)
	}
	return a
}

func (c *Cluster) tick(h *host, draw int) {
	h.tick(draw)
	c.gather(h)
}

// taken: a letter, out of the net.
func (c *Cluster) taken(k int) net.Letter {
	l, e := c.net.Take(k)
	must(e)
	return l
}

// step: a letter arrives; servers that are no nodes are sent some, too.
func (c *Cluster) step(l net.Letter, draw int) {
	h := c.host(l.To)
	if !h.runs() {
		return
	}
	h.step(l.B, draw)
	c.gather(h)
}

func (c *Cluster) carry(w int, arrives bool) {
	x := c.mustAsker(w).firstCall()
	h := c.host(x.To)
	if !arrives || !h.runs() {
		return
	}
	h.ask(x.Ask, w)
	c.gather(h)
}

func (c *Cluster) bring(w int, arrives bool) {
	a := c.mustAsker(w)
	x := a.firstAnswer()
	if arrives && a.hear(x) {
		c.end(w, a.last)
	}
}

// gather: what a node tells behind a call, and what it has now.
func (c *Cluster) gather(h *host) {
	for _, b := range h.Messages() {
		c.send(b)
	}
	for _, x := range h.Answers() {
		c.toRow(h.asker(x.ID), x)
	}
	c.records = append(c.records, h.records(len(c.records))...)
}

// send: a message as a letter, which is lost where a wall stands ahead of it, or the net has no room.
func (c *Cluster) send(b []byte) {
	m, _ := message.Get(b)
	l := net.Letter{From: m.From, To: m.To, B: b}
	if c.net.Open(l) {
		c.net.Send(l)
	}
}

func (c *Cluster) toRow(w int, x node.Answer) {
	a := c.askers[w]
	a.answers = append(a.answers, x)
}
