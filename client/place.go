package client

import "slices"

// place: where a client is among the servers that it knows.
type place struct {
	servers []int
	at      int
}

// server: the one that stands there.
func (p *place) server() int {
	return p.servers[p.at]
}

// stay, next: ways to the place whose server is asked.
func (p *place) stay() {}

func (p *place) next() {
	p.at = (p.at + 1) % len(p.servers)
}

// toward: the way to a server, or, where it is not known, to the next one.
func (p *place) toward(id int) func() {
	at := slices.Index(p.servers, id)
	if at < 0 {
		return p.next
	}
	return func() { p.at = at }
}
