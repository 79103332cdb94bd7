package cluster_test

import (
	"bytes"
	"fmt"
	"slices"
	"testing"

	"hustings/api"
	"hustings/client"
	"hustings/cluster"
	"hustings/node"
)

// DOC.md's rules: what is handed in is not changed, nor the room behind it, and not kept.
func TestHandedIn(t *testing.T) {
	c := inSession(t, usual(3, 1))
	data := []byte("hello and more")
	wantErr(t, "Do", c.Do(0, client.Order{Kind: node.Put, Data: data[:5]}), api.OK)
	want(t, "data", string(data), "hello and more")
	copy(data, "HELLO")
	want(t, "the Put", string(c.History()[0].Data), "hello")
	settle(t, c, 60)
	want(t, "records", recordsOf(t, c, 0), "hello,")

	ids := []int{0, 7, 9}
	wantErr(t, "Wall", c.Wall(ids[:1]), api.OK)
	want(t, "ids", fmt.Sprint(ids), "[0 7 9]")
	before := c.State()
	ids[0] = 1
	if !bytes.Equal(c.State(), before) {
		t.Error("the wall keeps its ids")
	}

	choices := []int{5, 6, 7, 8}
	c.Crash(0)
	wantErr(t, "Start", c.Start(0, choices[:2], 0), api.OK)
	want(t, "choices", fmt.Sprint(choices), "[5 6 7 8]")
}

// spoil: all of a list, and the room behind it.
func spoil(b []byte) {
	b = b[:cap(b)]
	for i := range b {
		b[i] = '!'
	}
}

func spoilRows(l [][]byte) {
	for _, b := range l {
		spoil(b)
	}
	l = l[:cap(l)]
	for i := range l {
		l[i] = []byte("spoilt")
	}
}

// spoilAnswers: all that looks answer.
func spoilAnswers(c *cluster.Cluster, o cluster.Options) {
	for n := range o.All {
		s, _ := c.Seen(n)
		for _, x := range s.View.L {
			spoil(x.Data)
		}
		v := s.View.L[:cap(s.View.L)]
		for i := range v {
			v[i] = api.Entry{Term: 99}
		}
		base := c.Base(n)
		base = base[:cap(base)]
		for i := range base {
			base[i] = 15
		}
		l, _ := c.Records(n)
		spoilRows(l)
	}
	for w := range o.Clients {
		spoilRows(c.Last(w).Records)
	}
	h := c.History()
	for _, x := range h {
		spoil(x.Data)
		spoilRows(x.Records)
	}
	clear(h[:cap(h)])
	spoil(c.State())
}

// DOC.md's rules: what is answered is new memory.
func TestAnswered(t *testing.T) {
	o := usual(3, 2)
	o.Keep = 5
	c := inSession(t, o)
	for k := range 8 {
		ended(t, c, 0, put(fmt.Sprint("record ", k)))
	}
	ended(t, c, 1, get(0, 100))
	unheard(t, c, 0, put("record 8"))
	tick(t, c, leader(t, c, 3), 2)
	before, state := looks(c, o), c.State()
	spoilAnswers(c, o)
	want(t, "looks", looks(c, o), before)
	if !bytes.Equal(c.State(), state) {
		t.Error("an answer shares memory with the cluster")
	}
	for n := range 3 {
		c.Crash(n)
		wantErr(t, "Start", c.Start(n, nil, n), api.OK)
	}
	ended(t, c, 1, get(0, 100))
	want(t, "records that were told", len(c.Last(1).Records), 8)
}

// DOC.md's rules: no two lists of one answer share anything.
func TestNoTwoShare(t *testing.T) {
	c := inSession(t, usual(1, 1))
	for range 4 {
		ended(t, c, 0, put("same"))
	}
	ended(t, c, 0, get(0, 9))
	ended(t, c, 0, get(0, 9))
	l, _ := c.Records(0)
	for k, b := range l {
		spoil(b)
		for _, other := range l[k+1:] {
			want(t, "another record", string(other), "same")
		}
	}
	h := c.History()
	spoilRows(h[4].Records)
	want(t, "another call's records", joined(h[5].Records), "same,same,same,same,")
	for k := range 3 {
		h[5].Records[k] = append(h[5].Records[k], "longer"...)
		want(t, "the next record", string(h[5].Records[k+1]), "same")
	}
}

// DOC.md's rules: nil and empty mean the same.
func TestNilEmpty(t *testing.T) {
	states := func(choices, ids []int, data []byte) []byte {
		c := inSession(t, usual(2, 1))
		c.Wall([]int{0})
		c.Wall(ids)
		c.Crash(1)
		c.Start(1, choices, 0)
		ended(t, c, 0, client.Order{Kind: node.Put, Data: data})
		return c.State()
	}
	if !slices.Equal(states(nil, nil, nil), states([]int{}, []int{}, []byte{})) {
		t.Error("nil and empty differ")
	}
}
