package history_test

import (
	"testing"

	"hustings/api"
	"hustings/history"
)

// P1904: OK, of orders that are those of one log.
func TestLegal(t *testing.T) {
	for i, c := range []struct {
		l     []history.Call
		order []int
	}{
		{nil, nil},
		{[]history.Call{}, []int{}},
		{[]history.Call{put(0, 1, 2, 0, "a")}, []int{0}},
		{[]history.Call{get(0, 1, 2)}, []int{0}},
		{[]history.Call{trim(0, 1, 2, 0, 0), trim(0, 3, 4, 9, 0), trim(0, 5, 6, -9, 0)}, []int{0, 1, 2}},
		{[]history.Call{put(0, 1, 2, 0, "a"), get(1, 3, 4, "a")}, []int{0, 1}},
		{[]history.Call{put(0, 1, 2, 0, ""), get(1, 3, 4, "")}, []int{0, 1}},
		// Calls that overlap stand as it comes.
		{[]history.Call{put(0, 1, 5, 0, "a"), get(1, 3, 4), get(2, 3, 4, "a")}, []int{1, 0, 2}},
		{[]history.Call{put(0, 1, 5, 1, "a"), put(1, 2, 4, 0, "b"), get(2, 1, 9, "b", "a")}, []int{1, 0, 2}},
		// One that began at the moment of another one's end did not begin behind it.
		{[]history.Call{put(0, 1, 2, 0, "a"), get(1, 2, 3)}, []int{1, 0}},
		{[]history.Call{put(0, 1, 2, 1, "a"), put(0, 2, 3, 0, "b")}, []int{1, 0}},
		// A Get tells what it asked for, and the log's Start and Next beside it.
		{[]history.Call{put(0, 1, 2, 0, "a"), put(0, 3, 4, 1, "b"), part(1, 5, 6, 1, 9, 0, 2, "b"), part(1, 7, 8, 0, 1, 0, 2, "a")}, []int{0, 1, 2, 3}},
		{[]history.Call{put(0, 1, 2, 0, "a"), part(1, 5, 6, 1, 9, 0, 1), part(1, 7, 8, 0, 0, 0, 1), part(1, 9, 10, 0, -1, 0, 1)}, []int{0, 1, 2, 3}},
		{[]history.Call{put(0, 1, 2, 0, "a"), put(0, 3, 4, 1, "b"), trim(0, 5, 6, 1, 1), part(1, 7, 8, 1, 9, 1, 2, "b"), trim(0, 9, 10, 0, 1), trim(0, 11, 12, 7, 2), part(1, 13, 14, 2, 9, 2, 2), put(0, 13, 14, 2, "c")}, []int{0, 1, 2, 3, 4, 5, 6, 7}},
		// What was not answered counts where it stands, or not at all, whatever it tells; a Get does nothing.
		{[]history.Call{lost(put(0, 1, 0, 0, "a")), get(1, 3, 4, "a")}, []int{0, 1}},
		{[]history.Call{lost(put(0, 1, 0, 0, "a")), get(1, 3, 4)}, []int{1}},
		{[]history.Call{lost(put(0, 1, 0, 0, "a")), get(1, 3, 4), get(1, 5, 6, "a")}, []int{1, 0, 2}},
		{[]history.Call{put(0, 1, 2, 0, "a"), lost(trim(1, 1, 0, 1, 0)), part(0, 3, 4, 1, 9, 1, 1)}, []int{0, 1, 2}},
		{[]history.Call{put(0, 1, 2, 0, "a"), lost(trim(1, 1, 0, 1, 0)), get(0, 3, 4, "a")}, []int{0, 2}},
		{[]history.Call{put(0, 1, 2, 0, "a"), lost(part(1, 1, 0, 7, 9, 0, 0)), get(0, 3, 4, "a")}, []int{0, 1, 2}},
		{[]history.Call{lost(put(0, 9, 0, 0, "b")), put(1, 1, 20, 1, "a")}, []int{0, 1}},
	} {
		if place, e := legal(c.l, c.order); place != 0 || e != api.OK {
			t.Errorf("%d: by the words: %d, error %d", i, place, e)
		}
		wantLegal(t, c.l, c.order, 0, api.OK)
	}
}

// P1904: ErrArg, of calls that may not be, and of an order that is no list of some of their numbers.
func TestLegalArguments(t *testing.T) {
	l := []history.Call{put(0, 1, 2, 0, "a"), put(0, 3, 4, 1, "b"), lost(put(0, 5, 0, 0, "c"))}
	for _, order := range [][]int{{0, 0}, {0, 1, 0}, {0, 1, 2, 2}, {2, 2}, {3}, {0, 1, 2, 3}, {-1}, {0, 1, -1}, {lowest}, {highest, 0, 1}, {0, 1, 2, 0, 1, 2}} {
		wantLegal(t, l, order, 0, api.ErrArg)
	}
	wantLegal(t, nil, []int{0}, 0, api.ErrArg)
	wantLegal(t, nil, []int{-1}, 0, api.ErrArg)
	overlaps := []history.Call{put(0, 1, 3, 0, "a"), put(0, 2, 4, 1, "b")}
	wantLegal(t, overlaps, []int{0, 1}, 0, api.ErrArg)
	wantLegal(t, overlaps, nil, 0, api.ErrArg)
	wantLegal(t, []history.Call{{}}, []int{0}, 0, api.ErrArg)
	wantLegal(t, []history.Call{{}}, nil, 0, api.ErrArg)
	// All of one list, one of another one: both may not be.
	wantLegal(t, []history.Call{{}}, []int{5}, 0, api.ErrArg)
}

// P1904: ErrNone, at the order's end, where an answered call is not in it; ahead of what stands wrong.
func TestLegalMissing(t *testing.T) {
	l := []history.Call{put(0, 1, 2, 0, "a"), put(1, 3, 4, 0, "b"), get(2, 5, 6), trim(3, 7, 8, 0, 9), lost(put(4, 1, 0, 0, "c"))}
	for _, order := range [][]int{nil, {0}, {3, 2, 1}, {3, 2, 1, 4}, {4}, {0, 1, 2, 4}, {0, 1, 3}} {
		wantLegal(t, l, order, len(order), api.ErrNone)
	}
	for k := range 4 {
		wantLegal(t, l[k:k+1], nil, 0, api.ErrNone)
	}
	wantLegal(t, l[4:], nil, 0, api.OK)
}

// P1904: ErrOrder, at the first place whose call began when one behind it had ended; ahead of what is answered wrong.
func TestLegalTime(t *testing.T) {
	wrong := put(9, 1, 90, 77, "never so")
	for i, c := range []struct {
		l     []history.Call
		order []int
		place int
	}{
		{[]history.Call{put(0, 1, 2, 0, "a"), get(1, 3, 4)}, []int{1, 0}, 0},
		{[]history.Call{put(0, 1, 2, 0, "a"), get(1, 3, 4), wrong}, []int{2, 1, 0}, 1},
		{[]history.Call{put(0, 1, 2, 0, "a"), put(1, 3, 4, 0, "b"), put(2, 5, 6, 0, "c")}, []int{2, 1, 0}, 0},
		{[]history.Call{put(0, 1, 2, 0, "a"), put(1, 3, 4, 0, "b"), put(2, 5, 6, 0, "c")}, []int{0, 2, 1}, 1},
		{[]history.Call{put(0, 1, 2, 0, "a"), put(1, 3, 4, 0, "b"), put(2, 5, 6, 0, "c")}, []int{1, 2, 0}, 0},
		// The one behind it may be far behind it, with others between.
		{[]history.Call{put(0, 1, 2, 0, "a"), put(1, 1, 50, 0, "b"), put(2, 1, 60, 0, "c"), put(3, 3, 70, 0, "d")}, []int{3, 1, 2, 0}, 0},
		{[]history.Call{put(0, 1, 2, 0, "a"), put(1, 1, 50, 0, "b"), put(2, 1, 60, 0, "c"), put(3, 3, 70, 0, "d")}, []int{1, 3, 2, 0}, 1},
		{[]history.Call{put(0, 1, 2, 0, "a"), put(1, 1, 50, 0, "b"), put(2, 1, 60, 0, "c"), put(3, 3, 70, 0, "d")}, []int{1, 2, 3, 0}, 2},
		// One that was not answered began, but did not end.
		{[]history.Call{lost(put(0, 3, 0, 0, "a")), put(1, 1, 2, 1, "b")}, []int{0, 1}, 0},
		{[]history.Call{wrong, lost(get(0, 3, 0)), put(1, 1, 2, 1, "b")}, []int{0, 1, 2}, 1},
	} {
		if place, e := legal(c.l, c.order); place != c.place || e != api.ErrOrder {
			t.Errorf("%d: by the words: %d, error %d", i, place, e)
		}
		wantLegal(t, c.l, c.order, c.place, api.ErrOrder)
	}
	behind := []history.Call{put(0, 3, 4, 0, "a"), lost(put(1, 1, 2, 0, "b"))}
	behind[1].End = 2 // which does not matter
	wantLegal(t, behind, []int{0, 1}, 0, api.OK)
}

// P1904: ErrOrder, at the first place whose call does not answer what the log does: each number, each record.
func TestLegalAnswers(t *testing.T) {
	// The log has b and c from 1 to 3 when the call is done that is told here.
	before := []history.Call{put(0, 1, 2, 0, "a"), put(0, 3, 4, 1, "b"), lost(put(1, 1, 0, 0, "c")), trim(0, 5, 6, 1, 1)}
	for i, c := range []struct {
		c  history.Call
		ok bool
	}{
		{put(0, 7, 8, 3, "d"), true},
		{put(0, 7, 8, 2, "d"), false},
		{put(0, 7, 8, 4, "d"), false},
		{put(0, 7, 8, 0, "d"), false},
		{put(0, 7, 8, -1, "d"), false},
		{trim(0, 7, 8, 2, 2), true},
		{trim(0, 7, 8, 2, 1), false},
		{trim(0, 7, 8, 2, 3), false},
		{trim(0, 7, 8, 0, 1), true},
		{trim(0, 7, 8, 0, 0), false},
		{trim(0, 7, 8, 9, 3), true},
		{trim(0, 7, 8, 9, 9), false},
		{part(0, 7, 8, 1, 9, 1, 3, "b", "c"), true},
		{part(0, 7, 8, 1, 1, 1, 3, "b"), true},
		{part(0, 7, 8, 2, 1, 1, 3, "c"), true},
		{part(0, 7, 8, 3, 9, 1, 3), true},
		{part(0, 7, 8, 0, 9, 1, 3), false},
		{part(0, 7, 8, 4, 9, 1, 3), false},
		{part(0, 7, 8, -1, 9, 1, 3), false},
		{part(0, 7, 8, lowest, highest, 1, 3), false},
		{part(0, 7, 8, highest, highest, 1, 3), false},
		{part(0, 7, 8, 1, 9, 0, 3, "b", "c"), false},
		{part(0, 7, 8, 1, 9, 2, 3, "b", "c"), false},
		{part(0, 7, 8, 1, 9, 1, 2, "b", "c"), false},
		{part(0, 7, 8, 1, 9, 1, 4, "b", "c"), false},
		{part(0, 7, 8, 1, 9, 1, 3), false},
		{part(0, 7, 8, 1, 9, 1, 3, "b"), false},
		{part(0, 7, 8, 1, 9, 1, 3, "b", "c", ""), false},
		{part(0, 7, 8, 1, 9, 1, 3, "b", "x"), false},
		{part(0, 7, 8, 1, 9, 1, 3, "x", "c"), false},
		{part(0, 7, 8, 1, 9, 1, 3, "c", "b"), false},
		{part(0, 7, 8, 1, 9, 1, 3, "b", "cc"), false},
		{part(0, 7, 8, 1, 9, 1, 3, "b", ""), false},
		{part(0, 7, 8, 1, 1, 1, 3, "b", "c"), false},
		{part(0, 7, 8, 1, 0, 1, 3, "b"), false},
		{part(0, 7, 8, 3, 9, 1, 3, ""), false},
	} {
		l := append(before[:4:4], c.c, put(9, 1, 90, 55, "never so"))
		place := 4
		if c.ok {
			place = 5
		}
		if p, e := legal(l, []int{0, 1, 2, 3, 4, 5}); p != place || e != api.ErrOrder {
			t.Errorf("%d: by the words: %d, error %d", i, p, e)
		}
		wantLegal(t, l, []int{0, 1, 2, 3, 4, 5}, place, api.ErrOrder)
		l[4] = lost(l[4]) // it is done, and nothing is asked of it
		wantLegal(t, l[:5], []int{0, 1, 2, 3, 4}, 0, api.OK)
	}
}

// P1904: what a kind's answer does not tell may be anything.
func TestLegalPassesOver(t *testing.T) {
	p, r := put(0, 1, 2, 0, "a"), trim(0, 3, 4, 1, 1)
	p.Start, p.From, p.Most, p.Records = 5, 6, 7, lines("z")
	r.Number, r.Most, r.Data, r.Records = 5, 6, []byte("z"), lines("z")
	g := part(0, 5, 6, 1, 9, 1, 1)
	g.Data = []byte("z")
	wantLegal(t, []history.Call{p, r, g}, []int{0, 1, 2}, 0, api.OK)
	g.Records = [][]byte{} // nil and empty ones mean the same
	wantLegal(t, []history.Call{p, r, g}, []int{0, 1, 2}, 0, api.OK)
	p.Data, r.From, r.Start = nil, 0, 0
	g = get(0, 5, 6, "")
	wantLegal(t, []history.Call{p, r, g}, []int{0, 1, 2}, 0, api.OK)
	p.Data, g.Records[0] = []byte{}, nil
	wantLegal(t, []history.Call{p, r, g}, []int{0, 1, 2}, 0, api.OK)
}

// The chapter's example: of a Get of Number 0 behind a Put no order is Legal; of Number 1, with the record, 0 1 is, alone.
func TestExample(t *testing.T) {
	none := []history.Call{put(0, 1, 2, 0, "a"), get(1, 3, 4)}
	one := []history.Call{put(0, 1, 2, 0, "a"), get(1, 3, 4, "a")}
	orders(2, func(order []int) {
		if _, e := history.Legal(none, order); e == api.OK {
			t.Error(order)
		}
		if _, e := history.Legal(one, order); (e == api.OK) != (len(order) == 2 && order[0] == 0) {
			t.Error(order, e)
		}
	})
}

// P1901: the greatest histories that may be end soon.
func TestGreat(t *testing.T) {
	var l []history.Call
	var order []int
	data := make([]byte, 500)
	var records [][]byte
	for k := range many / 2 {
		l = append(l, history.Call{Client: k, Begin: 1, End: moments - 1, Kind: history.Put, Answered: true, Number: k, Data: data})
		records = append(records, data)
		order = append(order, k)
	}
	for k := range many / 2 {
		c := part(many+k, 2, 3, 0, highest, 0, many/2)
		c.Records = records
		l = append(l, c)
		order = append(order, many/2+k)
	}
	wantLegal(t, l, order, 0, api.OK)
	l[many-1].Records = records[1:]
	wantLegal(t, l, order, many-1, api.ErrOrder)
}
