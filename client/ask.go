package client

import (
	"hustings/api"
	"hustings/node"
)

// idStep: from the IDs of one client's asks to those of the next one's.
const idStep = 1_000_000

// begin: an order that may be is the one that waits.
func (c *Client) begin(o Order) {
	c.state, c.order = waits, o.copy()
	if o.Kind == node.Put {
		c.seq++
	}
	c.ask(c.place.stay)
}

// ask: once more, of the server to which a way leads.
func (c *Client) ask(way func()) {
	way()
	c.tries++
	c.passed = 0
	c.calls = append(c.calls, Call{To: c.place.server(), Ask: c.words()})
}

// words: what is asked now. But for the ID it is the same as long as the order waits, since a session and a seq change with another order only.
func (c *Client) words() node.Ask {
	o := c.order.copy()
	a := node.Ask{ID: c.lastID(), Kind: o.Kind, From: o.From, Most: o.Most, Data: o.Data}
	if o.Kind == node.Put {
		a.Session, a.Seq = c.session, c.seq
	}
	return a
}

func (c *Client) lastID() int {
	return c.id*idStep + c.tries
}

// hear: an answer to the last ask, while the order waits.
func (c *Client) hear(a node.Answer) {
	switch a.E {
	case api.ErrLeader:
		c.ask(c.place.toward(a.Leader))
	case api.ErrWait, api.ErrDown, api.ErrBusy, api.ErrEarly, api.ErrFull:
		// It may be otherwise soon: to ask again at once would only meet the same.
		c.passed = c.patience - 1
	case api.OK:
		if c.order.Kind == node.OpenSession {
			c.session = a.Session
		}
		fallthrough
	default:
		c.state, c.answer = done, copyAnswer(a)
	}
}
