package history_test

import (
	"bytes"
	"fmt"
	"slices"
	"testing"

	"hustings/api"
	"hustings/history"
)

// roomy: a list, with more behind it in the same room.
func roomy[T any](l []T, behind ...T) []T {
	return append(slices.Clone(l), behind...)[:len(l)]
}

// spoil: writes into a list and into the room behind it.
func spoil[T any](l []T, with T) {
	for i := range l[:cap(l)] {
		l[:cap(l)][i] = with
	}
}

// P1901: data that is put is not changed, nor the room behind it, and not kept.
func TestPutKeepsNothing(t *testing.T) {
	m := history.New()
	for _, text := range []string{"abc", "", "d"} {
		data := roomy([]byte(text), 7, 8)
		m.Put(data)
		if !bytes.Equal(data[:len(text)+2], append([]byte(text), 7, 8)) {
			t.Errorf("<%s>: %v", text, data[:len(text)+2])
		}
		spoil(data, 'x')
	}
	wantRecords(t, m, 0, 9, "abc", "", "d")
}

// P1901: what a Get answers shares nothing with the Model, with another answer, or within itself.
func TestGetIsNew(t *testing.T) {
	m := history.New()
	for _, text := range []string{"abc", "", "de", "f"} {
		m.Put([]byte(text))
	}
	one, _ := m.Get(0, 9)
	other, _ := m.Get(0, 9)
	for k := range one {
		spoil(one[k], 'x')
		if k+1 < len(one) && string(one[k+1]) != string(other[k+1]) {
			t.Fatalf("%d spoils %d: %q", k, k+1, one)
		}
	}
	spoil(one, []byte("x"))
	if !slices.EqualFunc(other, lines("abc", "", "de", "f"), bytes.Equal) {
		t.Errorf("%q", other)
	}
	few, _ := m.Get(1, 2)
	spoil(few, []byte("x"))
	wantRecords(t, m, 0, 9, "abc", "", "de", "f")
	m.Trim(9)
	if !slices.EqualFunc(other, lines("abc", "", "de", "f"), bytes.Equal) {
		t.Errorf("%q", other)
	}
}

// P1901: Models share nothing.
func TestApart(t *testing.T) {
	x, y := history.New(), history.New()
	x.Put([]byte("x"))
	wantBounds(t, y, 0, 0)
	y.Put([]byte("y"))
	y.Put([]byte("z"))
	x.Trim(1)
	wantRecords(t, y, 0, 9, "y", "z")
	wantBounds(t, x, 1, 1)
}

// told: all that stands in calls, and in the room behind them.
func told(l []history.Call) string {
	var s []byte
	for _, c := range l[:cap(l)] {
		s = fmt.Append(s, c, c.Data[:cap(c.Data)])
		for _, b := range c.Records[:cap(c.Records)] {
			s = fmt.Append(s, b[:cap(b)])
		}
	}
	return string(s)
}

// P1901: calls and orders are not changed, nor the room behind them, and Right, Order and Legal answer the same each time.
func TestCallsAreLeft(t *testing.T) {
	l := []history.Call{at(9, get(3, 9, 10, "a", "c")), at(5, put(1, 5, 6, 1, "c")), at(3, put(1, 1, 2, 0, "a")), lost(at(2, trim(0, 3, 0, -1, 0)))}
	for k := range l {
		l[k].Data = roomy(l[k].Data, 7, 8)
		l[k].Records = roomy(l[k].Records, []byte("y"), []byte("z"))
	}
	l = roomy(l, put(5, 1, 2, 0, "e"), put(5, 1, 2, 0, "f"))
	order := roomy([]int{2, 3, 1, 0}, 77, 78)
	was := told(l)
	for range 2 {
		if !history.Right(l) || !slices.Equal(history.Order(l), []int{3, 2, 1, 0}) {
			t.Error(history.Order(l))
		}
		wantLegal(t, l, order, 0, api.OK)
		wantLegal(t, l, order[:3], 3, api.ErrNone)
		wantLegal(t, l, order[:5], 0, api.ErrArg)
		wantLegal(t, l[:cap(l)], order, 0, api.ErrArg)
		if told(l) != was || !slices.Equal(order[:6], []int{2, 3, 1, 0, 77, 78}) {
			t.Fatalf("changed: %v %v", l, order[:6])
		}
	}
}

// P1901: an Order is new memory.
func TestOrderIsNew(t *testing.T) {
	l := []history.Call{at(3, put(0, 1, 2, 0, "a")), at(2, put(1, 1, 2, 0, "b")), at(1, put(2, 1, 2, 0, "c"))}
	one, other := history.Order(l), history.Order(l)
	spoil(one, 9)
	if !slices.Equal(other, []int{2, 1, 0}) || !slices.Equal(history.Order(l), []int{2, 1, 0}) {
		t.Error(other, history.Order(l))
	}
}
