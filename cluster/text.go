package cluster

import (
	"strconv"

	"hustings/api"
	"hustings/client"
	"hustings/node"
)

// text: what is told, as bytes. Bytes and lists have their lengths ahead of them, so that no two things are told alike.
type text []byte

func (t text) numbers(l ...int) text {
	for _, n := range l {
		t = strconv.AppendInt(append(t, ' '), int64(n), 10)
	}
	return t
}

func (t text) bytes(l ...[]byte) text {
	for _, b := range l {
		t = append(append(t.numbers(len(b)), ' '), b...)
	}
	return t
}

func (t text) yes(is bool) text {
	if is {
		return t.numbers(1)
	}
	return t.numbers(0)
}

func (t text) list(l []int) text {
	return t.numbers(len(l)).numbers(l...)
}

func (t text) rows(l [][]byte) text {
	return t.numbers(len(l)).bytes(l...)
}

func (t text) order(o client.Order) text {
	return t.numbers(o.Kind, o.From, o.Most).bytes(o.Data)
}

func (t text) ask(a node.Ask) text {
	return t.numbers(a.ID, a.Kind, a.Session, a.Seq, a.From, a.Most).bytes(a.Data)
}

func (t text) answer(a node.Answer) text {
	return t.numbers(a.ID, int(a.E), a.Session, a.Number, a.Leader).rows(a.Records)
}

func (t text) entries(l []api.Entry) text {
	t = t.numbers(len(l))
	for _, x := range l {
		t = t.numbers(x.Term, x.Index, x.Kind).bytes(x.Data)
	}
	return t
}
