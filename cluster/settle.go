package cluster

const (
	maxLetters    = 500  // in the net
	maxRounds     = 2000 // of one Settle
	maxDeliveries = 5000 // in one round
)

// round: all that is on its way arrives, and time passes once.
func (c *Cluster) round() {
	for w, a := range c.askers {
		for len(a.calls) > 0 {
			c.carry(w, true)
		}
	}
	c.deliverAll()
	for w, a := range c.askers {
		for len(a.answers) > 0 {
			c.bring(w, true)
		}
	}
	for _, a := range c.askers {
		a.wait()
	}
	for _, h := range c.hosts {
		if h.runs() {
			c.tick(h, drawOf(h.id))
		}
	}
}

// deliverAll: what arrives brings forth letters of its own, so that there is a bound.
func (c *Cluster) deliverAll() {
	for range maxDeliveries {
		k := c.net.Next(0)
		if k < 0 {
			return
		}
		l := c.taken(k)
		c.step(l, drawOf(l.To))
	}
}

// drawOf: the draws of all that befalls a node.
func drawOf(n int) int {
	return 2 * n
}
