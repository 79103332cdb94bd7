package cluster

import (
	"bytes"

	"hustings/api"
	"hustings/client"
	"hustings/history"
	"hustings/node"
)

// begin: an order, as the history tells it; of the other kinds only that it has begun.
func (c *Cluster) begin(w int, o client.Order) {
	c.moment++
	x := &history.Call{Begin: c.moment}
	c.orders[w] = x
	switch o.Kind {
	case node.Put:
		x.Kind, x.Data = history.Put, bytes.Clone(o.Data)
	case node.Get:
		x.Kind, x.From, x.Most = history.Get, o.From, o.Most
	default:
		return
	}
	// A client of its own for each: one whose order was refused goes on with others, as no client of a history may behind a call that is not answered.
	x.Client = len(c.past)
	c.past = append(c.past, x)
}

// end: of a client's order, by an answer.
func (c *Cluster) end(w int, a node.Answer) {
	c.moment++
	x := c.orders[w]
	delete(c.orders, w)
	if a.E != api.OK {
		return
	}
	x.Answered, x.End, x.Number, x.Records = true, c.moment, a.Number, a.Records
	if x.Kind == history.Get {
		x.Start = a.Session
	}
}

// copyPast: in memory of its own.
func (c *Cluster) copyPast() []history.Call {
	var l []history.Call
	for _, x := range c.past {
		y := *x
		y.Data, y.Records = bytes.Clone(x.Data), copyRows(x.Records)
		l = append(l, y)
	}
	return l
}

// claim: the place at which each call counted. Of what was not answered the records tell which Puts may have counted.
func claim(l []history.Call, records [][]byte) {
	told := map[int]struct{}{} // the numbers that answered Puts have
	left := map[string][]int{} // by bytes: the Puts that have no record yet
	for i, x := range l {
		switch {
		case x.Kind == history.Get && x.Answered:
			l[i].At = 2 * x.Number
		case x.Answered:
			l[i].At = placeOf(x.Number)
			told[x.Number] = struct{}{}
		case x.Kind == history.Put:
			left[string(x.Data)] = append(left[string(x.Data)], i)
		}
	}
	for number, b := range records {
		waiting := left[string(b)]
		if _, is := told[number]; is || len(waiting) == 0 {
			continue
		}
		l[waiting[0]].At = placeOf(number)
		left[string(b)] = waiting[1:]
	}
}

// placeOf: of a record, between that of the Gets that have not seen it and that of those that have.
func placeOf(number int) int {
	return 2*number + 1
}

// copyRows: rows of bytes, in memory of their own.
func copyRows(l [][]byte) [][]byte {
	var rows [][]byte
	for _, b := range l {
		rows = append(rows, bytes.Clone(b))
	}
	return rows
}
