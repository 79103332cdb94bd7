package cluster

import (
	"hustings/api"
	"hustings/node"
	"hustings/vdisk"
)

// How all nodes go on, beside what the cluster's options say.
const (
	least = 8
	beat  = 2
	chunk = 64
)

// leads: the role of a node that does.
const leads = 3

// host: where a node runs, or would.
type host struct {
	*node.Node // what runs: none behind a crash
	story
	id      int
	servers []int // those that agree at first, where it is one of them
	options node.Options
	disk    *vdisk.Disk
	asked   map[int]int // by the IDs of what the node was asked, and has not answered: the clients
}

// newHost: a node is opened on an empty disk, whose least quota is enough for that.
func newHost(id int, o Options) *host {
	d, _ := vdisk.New(o.Quota)
	h := &host{id: id, disk: d}
	h.options = node.Options{Least: least, Beat: beat, Chunk: chunk, Span: o.Span, Keep: o.Keep}
	if id < o.Servers {
		h.servers = below(o.Servers)
	}
	h.open(id)
	return h
}

// runs: does a node run there? One that is down does not.
func (h *host) runs() bool {
	return h != nil && !h.Down()
}

// open: a node on what the disk has; or none, and why.
func (h *host) open(draw int) (e api.Errno) {
	h.asked = map[int]int{}
	h.Node, e = node.Open(h.options, h.id, h.servers, h.disk, draw)
	return e
}

// start: of the disk only that is left which the choices say.
func (h *host) start(choices []int, draw int) api.Errno {
	h.befell(text("start").numbers(draw).numbers(choices...))
	h.disk.Crash(choices)
	return h.open(draw)
}

func (h *host) stop() {
	h.befell(text("stop"))
	h.Node = nil
}

func (h *host) cut(fuse int) {
	h.befell(text("cut").numbers(fuse))
	h.disk.Cut(fuse)
}

func (h *host) tick(draw int) {
	h.befell(text("tick").numbers(draw))
	h.Tick(draw)
}

func (h *host) step(b []byte, draw int) {
	h.befell(text("step").numbers(draw).bytes(b))
	h.Step(b, draw)
}

// ask: for a client. One who may not ask is not answered either.
func (h *host) ask(a node.Ask, w int) {
	h.befell(text("ask").ask(a))
	if h.Ask(a) == api.OK {
		h.asked[a.ID] = w
	}
}

// asker: the client that is answered, which is not told of that ID again.
func (h *host) asker(id int) int {
	w := h.asked[id]
	delete(h.asked, id)
	return w
}

// records: those from a number on; a node that is down tells what it had.
func (h *host) records(from int) [][]byte {
	l, _ := h.Read(from, h.Next())
	return l
}

// below: the numbers from 0 on, so many.
func below(n int) []int {
	l := make([]int, n)
	for i := range l {
		l[i] = i
	}
	return l
}
