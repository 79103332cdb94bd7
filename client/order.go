package client

import (
	"bytes"
	"slices"

	"hustings/api"
	"hustings/node"
)

// mayBe: may it be asked?
func (o Order) mayBe() bool {
	switch o.Kind {
	case node.OpenSession:
		return true
	case node.Put:
		return len(o.Data) <= api.MaxData
	case node.Get:
		if o.Most < 0 {
			return false
		}
		fallthrough
	case node.Trim:
		return o.From >= 0
	case node.Add, node.Drop:
		return within(o.From, 0, api.MaxID-1)
	}
	return false
}

// copy: the same one, with bytes of its own.
func (o Order) copy() Order {
	o.Data = bytes.Clone(o.Data)
	return o
}

// copyAnswer: the same one, with records of its own.
func copyAnswer(a node.Answer) node.Answer {
	a.Records = slices.Clone(a.Records)
	for i, b := range a.Records {
		a.Records[i] = bytes.Clone(b)
	}
	return a
}

func within(n, least, most int) bool {
	return n >= least && n <= most
}
