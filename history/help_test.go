package history_test

import (
	"bytes"
	"slices"
	"testing"

	"hustings/api"
	"hustings/history"
)

const (
	highest = 1<<63 - 1
	lowest  = -1 << 63
	moments = 1 << 40
	many    = 2000
)

func put(client, begin, end, number int, data string) history.Call {
	return history.Call{Client: client, Begin: begin, End: end, Kind: history.Put, Answered: true, Number: number, Data: []byte(data)}
}

func trim(client, begin, end, to, start int) history.Call {
	return history.Call{Client: client, Begin: begin, End: end, Kind: history.Trim, Answered: true, From: to, Start: start}
}

// get: of a log that begins at 0, from its beginning on, of all that it has.
func get(client, begin, end int, records ...string) history.Call {
	return part(client, begin, end, 0, highest, 0, len(records), records...)
}

// part: a Get that heard of records from start to next less 1.
func part(client, begin, end, from, most, start, next int, records ...string) history.Call {
	return history.Call{Client: client, Begin: begin, End: end, Kind: history.Get, Answered: true, From: from, Most: most, Number: next, Start: start, Records: lines(records...)}
}

func lines(texts ...string) [][]byte {
	var l [][]byte
	for _, s := range texts {
		l = append(l, []byte(s))
	}
	return l
}

// lost: the same one, not answered; what does not matter then is what no answer could be.
func lost(c history.Call) history.Call {
	c.Answered, c.End, c.Number, c.Start, c.Records = false, -5, -6, -7, lines("nobody told this")
	return c
}

func at(place int, c history.Call) history.Call {
	c.At = place
	return c
}

func wantLegal(t *testing.T, l []history.Call, order []int, place int, e api.Errno) {
	t.Helper()
	if p, got := history.Legal(l, order); p != place || got != e {
		t.Fatalf("Legal of %v in the order %v: place %d, error %d, not %d, %d", l, order, p, got, place, e)
	}
}

func wantRecords(t *testing.T, m *history.Model, from, most int, want ...string) {
	t.Helper()
	l, ok := m.Get(from, most)
	if !ok || !slices.EqualFunc(l, lines(want...), bytes.Equal) {
		t.Fatalf("Get(%d, %d): %q, %v, not %q", from, most, l, ok, want)
	}
}

func wantNoRecords(t *testing.T, m *history.Model, from, most int) {
	t.Helper()
	if l, ok := m.Get(from, most); ok || len(l) != 0 {
		t.Fatalf("Get(%d, %d): %q, %v", from, most, l, ok)
	}
}

func wantBounds(t *testing.T, m *history.Model, start, next int) {
	t.Helper()
	if m.Start() != start || m.Next() != next {
		t.Fatalf("from %d to %d, not from %d to %d", m.Start(), m.Next(), start, next)
	}
}

// orders: hands on each list of numbers below n, each once at most.
func orders(n int, each func([]int)) {
	var further func(order []int)
	further = func(order []int) {
		each(order)
		for k := range n {
			if !slices.Contains(order, k) {
				further(append(slices.Clone(order), k))
			}
		}
	}
	further(nil)
}
