package history_test

import (
	"bytes"
	"slices"

	"hustings/api"
	"hustings/history"
)

// book: the log itself, by P1902's words: records by their numbers.
type book struct {
	start, next int
	records     map[int]string
}

func newBook() *book {
	return &book{records: map[int]string{}}
}

func (b *book) put(data string) int {
	b.records[b.next] = data
	b.next++
	return b.next - 1
}

func (b *book) trim(to int) int {
	for b.start < to && b.start < b.next {
		delete(b.records, b.start)
		b.start++
	}
	return b.start
}

func (b *book) get(from, most int) (l []string, ok bool) {
	if from < b.start || from > b.next {
		return nil, false
	}
	for number := from; number < b.next && len(l) < most; number++ {
		l = append(l, b.records[number])
	}
	return l, true
}

// answers: does the book answer what the call was told? It is done in any case.
func (b *book) answers(c history.Call) bool {
	switch c.Kind {
	case history.Put:
		return b.put(string(c.Data)) == c.Number
	case history.Trim:
		return b.trim(c.From) == c.Start
	}
	l, ok := b.get(c.From, c.Most)
	return ok && slices.EqualFunc(lines(l...), c.Records, bytes.Equal) && c.Number == b.next && c.Start == b.start
}

// right: P1903, by the chapter's words: each call by itself, and each beside each other one.
func right(l []history.Call) bool {
	if len(l) > many {
		return false
	}
	for i, c := range l {
		if c.Client < 0 || c.Kind < 1 || c.Kind > 3 || c.Begin < 0 || c.Begin >= moments || c.At < 0 || c.At > moments {
			return false
		}
		if c.Answered && (c.End <= c.Begin || c.End >= moments) {
			return false
		}
		for k, other := range l {
			if i == k || c.Client != other.Client || other.Begin < c.Begin {
				continue
			}
			if !c.Answered || other.Begin < c.End {
				return false
			}
		}
	}
	return true
}

// ahead: does one call stand ahead of another one in the Order, by P1903's words?
func ahead(l []history.Call, i, k int) bool {
	a, b := l[i], l[k]
	switch {
	case a.At != b.At:
		return a.At < b.At
	case a.Kind != history.Get && b.Kind == history.Get:
		return true
	case a.Kind == history.Get && b.Kind != history.Get:
		return false
	case a.Begin != b.Begin:
		return a.Begin < b.Begin
	}
	return i < k
}

// claimed: the Order, by P1903's words: each call's place is how many stand ahead of it.
func claimed(l []history.Call) []int {
	var numbers []int
	for k, c := range l {
		if c.Answered || c.Kind != history.Get && c.At > 0 {
			numbers = append(numbers, k)
		}
	}
	order := make([]int, len(numbers))
	for _, k := range numbers {
		place := 0
		for _, i := range numbers {
			if ahead(l, i, k) {
				place++
			}
		}
		order[place] = k
	}
	return order
}

// legal: P1904, by the chapter's words.
func legal(l []history.Call, order []int) (int, api.Errno) {
	places := map[int]int{}
	for place, k := range order {
		if _, twice := places[k]; twice || k < 0 || k >= len(l) {
			return 0, api.ErrArg
		}
		places[k] = place
	}
	if !right(l) {
		return 0, api.ErrArg
	}
	for k, c := range l {
		if _, there := places[k]; c.Answered && !there {
			return len(order), api.ErrNone
		}
	}
	for place, k := range order {
		for _, behind := range order[place+1:] {
			if l[behind].Answered && l[k].Begin > l[behind].End {
				return place, api.ErrOrder
			}
		}
	}
	b := newBook()
	for place, k := range order {
		if !b.answers(l[k]) && l[k].Answered {
			return place, api.ErrOrder
		}
	}
	return 0, api.OK
}
