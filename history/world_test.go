package history_test

import (
	"math/rand"
	"slices"
	"testing"

	"hustings/api"
	"hustings/history"
)

// lived: calls as one log answered them: each of a client's began, counted somewhere, and ended, while those of others did; some counted, or not, and were never answered.
func lived(r *rand.Rand, n int) []history.Call {
	const clients = 4
	var l []history.Call
	b := newBook()
	open := map[int]int{} // a client's call
	counted := map[int]int{}
	over := map[int]int{}
	for moment := 1; len(l) < n || len(open) > 0; moment++ {
		client := r.Intn(clients)
		k, busy := open[client]
		switch {
		case over[client] > 0:
			if len(over) == clients && len(open) == 0 {
				return l
			}
		case !busy:
			if len(l) < n {
				open[client] = len(l)
				l = append(l, begin(r, client, moment, b))
			}
		case counted[k] == 0 && r.Intn(12) == 0: // it is never heard of again
			if r.Intn(2) == 0 {
				count(&l[k], b, moment)
			}
			l[k] = lost(l[k])
			delete(open, client)
			over[client] = 1
		case counted[k] == 0:
			counted[k] = 1
			count(&l[k], b, moment)
		case r.Intn(2) == 0:
			l[k].Answered, l[k].End = true, moment
			delete(open, client)
		}
	}
	return l
}

func begin(r *rand.Rand, client, moment int, b *book) history.Call {
	c := history.Call{Client: client, Begin: moment, Kind: 1 + r.Intn(3)}
	switch c.Kind {
	case history.Put:
		c.Data = []byte{byte('a' + r.Intn(26)), byte('a' + r.Intn(26))}
	case history.Get:
		c.From, c.Most = b.start+r.Intn(1+b.next-b.start), r.Intn(5)
	default:
		c.From = b.start + r.Intn(3) - 1
	}
	return c
}

// count: it is done; a Get that the log answers no more asks again for what there is.
func count(c *history.Call, b *book, moment int) {
	c.At = moment
	switch c.Kind {
	case history.Put:
		c.Number = b.put(string(c.Data))
	case history.Trim:
		c.Start = b.trim(c.From)
	default:
		c.From = max(c.From, b.start)
		told, _ := b.get(c.From, c.Most)
		c.Records, c.Number, c.Start = lines(told...), b.next, b.start
	}
}

// wantOneLog: P1905 and P1906, of a history with a Legal order.
func wantOneLog(t *testing.T, l []history.Call) {
	t.Helper()
	puts := map[int]history.Call{}
	for _, c := range l {
		if c.Answered && c.Kind == history.Put {
			if _, twice := puts[c.Number]; twice {
				t.Fatalf("two Puts have the number %d: %v", c.Number, l)
			}
			puts[c.Number] = c
		}
	}
	for _, c := range l {
		if !c.Answered || c.Kind != history.Get {
			continue
		}
		for number, p := range puts {
			place := number - c.From
			if place >= 0 && place < len(c.Records) && string(c.Records[place]) != string(p.Data) {
				t.Fatalf("%v told not what %v put", c, p)
			}
			if c.Begin > p.End && c.Number <= number {
				t.Fatalf("%v knew nothing of %v", c, p)
			}
		}
	}
}

// turn: changes one thing of one call by chance.
func turn(r *rand.Rand, l []history.Call) {
	c := &l[r.Intn(len(l))]
	switch r.Intn(10) {
	case 0:
		c.Number += 1 - 2*r.Intn(2)
	case 1:
		c.Start += 1 - 2*r.Intn(2)
	case 2:
		c.Data = []byte("turned")
	case 3:
		c.From += 1 - 2*r.Intn(2)
	case 4:
		c.Most++
	case 5:
		c.Begin += r.Intn(9) - 4
	case 6:
		c.End += r.Intn(9) - 4
	case 7:
		c.Records = append(c.Records, []byte("turned"))
	case 8:
		if len(c.Records) > 0 {
			c.Records = c.Records[1:]
		}
	default:
		c.Answered = !c.Answered
	}
}

// shuffled: an order with some places changed, numbers gone, or doubled.
func shuffled(r *rand.Rand, order []int) []int {
	order = slices.Clone(order)
	for range r.Intn(3) {
		if len(order) < 2 {
			break
		}
		i := r.Intn(len(order) - 1)
		switch r.Intn(8) {
		case 0:
			order = slices.Delete(order, i, i+1)
		case 1:
			order[i] = order[i+1]
		default:
			order[i], order[i+1] = order[i+1], order[i]
		}
	}
	return order
}

// P1904: what one log answered is Legal in the order in which it counted, whatever was never answered.
func TestLivedIsLegal(t *testing.T) {
	for seed := range int64(3000) {
		r := rand.New(rand.NewSource(seed))
		l := lived(r, 1+r.Intn(40))
		r.Shuffle(len(l), func(i, k int) { l[i], l[k] = l[k], l[i] })
		if !history.Right(l) {
			t.Fatalf("seed %d: %v may not be", seed, l)
		}
		wantLegal(t, l, history.Order(l), 0, api.OK)
		wantOneLog(t, l)
	}
}

// P1904 by chance, against the chapter's words, of what one log answered, with a little of it changed; P1905, P1906 of what is Legal still.
func TestLegalByChance(t *testing.T) {
	seen := map[api.Errno]int{}
	for seed := range int64(30000) {
		r := rand.New(rand.NewSource(seed))
		l := lived(r, 1+r.Intn(15))
		order := history.Order(l)
		for range r.Intn(3) {
			turn(r, l)
		}
		order = shuffled(r, order)
		place, e := legal(l, order)
		wantLegal(t, l, order, place, e)
		if e == api.OK {
			wantOneLog(t, l)
		}
		seen[e]++
	}
	for _, e := range []api.Errno{api.OK, api.ErrArg, api.ErrNone, api.ErrOrder} {
		if seen[e] < 500 {
			t.Errorf("error %d came %d times", e, seen[e])
		}
	}
}

// P1904 of all orders of few calls, against the chapter's words; P1905, P1906 of those that are Legal.
func TestAllOrders(t *testing.T) {
	found := 0
	for seed := range int64(300) {
		r := rand.New(rand.NewSource(seed))
		l := lived(r, 5)
		if r.Intn(2) == 0 {
			turn(r, l)
		}
		orders(len(l), func(order []int) {
			place, e := legal(l, order)
			wantLegal(t, l, order, place, e)
			if e == api.OK {
				found++
				wantOneLog(t, l)
			}
		})
	}
	if found < 300 {
		t.Errorf("%d orders are Legal", found)
	}
}
