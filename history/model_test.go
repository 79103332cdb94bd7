package history_test

import (
	"fmt"
	"math/rand"
	"testing"

	"hustings/history"
)

// P1901: of a nil Model: 0, nothing, false.
func TestNilModel(t *testing.T) {
	var m *history.Model
	for range 2 {
		for _, n := range []int{0, 1, -1, lowest, highest} {
			if m.Put([]byte("x")) != 0 || m.Put(nil) != 0 || m.Trim(n) != 0 || m.Start() != 0 || m.Next() != 0 {
				t.Errorf("%d: not 0", n)
			}
			wantNoRecords(t, m, n, 1)
			wantNoRecords(t, m, 0, n)
		}
	}
}

// P1901: one that New did not make is an empty one, that New made.
func TestNotMade(t *testing.T) {
	for what, m := range map[string]*history.Model{"made": history.New(), "not made": {}, "new": new(history.Model)} {
		t.Run(what, func(t *testing.T) {
			if m == nil {
				t.Fatal("no Model")
			}
			wantBounds(t, m, 0, 0)
			wantRecords(t, m, 0, 9)
			wantNoRecords(t, m, 1, 9)
			if m.Trim(5) != 0 || m.Put([]byte("x")) != 0 || m.Put(nil) != 1 {
				t.Error("not as an empty one")
			}
			wantRecords(t, m, 0, 9, "x", "")
			if m.Trim(1) != 1 {
				t.Error("Trim")
			}
			wantBounds(t, m, 1, 2)
		})
	}
}

// P1902: a put stands at Next, whatever was trimmed.
func TestPut(t *testing.T) {
	m := history.New()
	for number := range 100 {
		if got := m.Put(fmt.Append(nil, number)); got != number {
			t.Fatalf("Put is %d, not %d", got, number)
		}
		wantBounds(t, m, max(number-9, 0), number+1)
		wantRecords(t, m, number, 9, fmt.Sprint(number))
		if start := m.Trim(number - 8); start != max(number-8, 0) {
			t.Fatalf("Trim is %d behind %d", start, number)
		}
	}
}

// P1902: a trim takes what is below, at most all, and none comes back.
func TestTrim(t *testing.T) {
	for _, c := range []struct{ first, to, start int }{
		{0, lowest, 0}, {0, -1, 0}, {0, 0, 0}, {0, 1, 1}, {0, 3, 3}, {0, 4, 4}, {0, 5, 4}, {0, highest, 4},
		{2, lowest, 2}, {2, -2, 2}, {2, 0, 2}, {2, 1, 2}, {2, 2, 2}, {2, 3, 3}, {2, 4, 4}, {2, 5, 4}, {2, highest, 4},
		{4, 0, 4}, {4, 3, 4}, {4, 4, 4}, {4, highest, 4},
	} {
		m := history.New()
		records := []string{"a", "b", "c", "d"}
		for _, s := range records {
			m.Put([]byte(s))
		}
		m.Trim(c.first)
		if start := m.Trim(c.to); start != c.start {
			t.Errorf("%v: Trim is %d", c, start)
		}
		wantBounds(t, m, c.start, 4)
		wantRecords(t, m, c.start, 9, records[c.start:]...)
		wantNoRecords(t, m, c.start-1, 9)
		if m.Put([]byte("e")) != 4 {
			t.Errorf("%v: Put", c)
		}
		wantRecords(t, m, c.start, 9, append(records, "e")[c.start:]...)
	}
}

// P1902: a get is from Start to Next, and of at most so many.
func TestGet(t *testing.T) {
	m := history.New()
	records := []string{"a", "", "c", "d", "e"}
	for _, s := range records {
		m.Put([]byte(s))
	}
	m.Trim(2)
	for _, from := range []int{lowest, -5, -1, 0, 1, 6, 7, highest} {
		for _, most := range []int{lowest, -1, 0, 1, 9, highest} {
			wantNoRecords(t, m, from, most)
		}
	}
	for from := 2; from <= 5; from++ {
		for most := range 6 {
			wantRecords(t, m, from, most, records[from:min(5, from+most)]...)
		}
		wantRecords(t, m, from, highest, records[from:]...)
		wantRecords(t, m, from, -1)
		wantRecords(t, m, from, lowest)
	}
}

// P1902: rows of calls by chance, against the chapter's words.
func TestModelByChance(t *testing.T) {
	for seed := range int64(200) {
		r := rand.New(rand.NewSource(seed))
		m, b := history.New(), newBook()
		for step := range 200 {
			n := b.start + r.Intn(8) - 2
			switch r.Intn(4) {
			case 0, 1:
				data := fmt.Sprint(step)
				if got, want := m.Put([]byte(data)), b.put(data); got != want {
					t.Fatalf("seed %d: Put is %d, not %d", seed, got, want)
				}
			case 2:
				if got, want := m.Trim(n), b.trim(n); got != want {
					t.Fatalf("seed %d: Trim(%d) is %d, not %d", seed, n, got, want)
				}
			}
			wantBounds(t, m, b.start, b.next)
			most := r.Intn(6)
			if l, ok := b.get(n, most); ok {
				wantRecords(t, m, n, most, l...)
			} else {
				wantNoRecords(t, m, n, most)
			}
			all, _ := b.get(b.start, highest)
			wantRecords(t, m, b.start, highest, all...)
		}
	}
}
