package client_test

import (
	"bytes"
	"slices"
	"testing"

	"hustings/api"
	"hustings/client"
	"hustings/node"
)

// The lists that are handed in here have room behind them, in which bytes stand that must stay.

func roomy(text string) []byte {
	return append(append(make([]byte, 0, len(text)+3), text...), 1, 2, 3)[:len(text)]
}

func wantRoom(t *testing.T, b []byte, text string) {
	t.Helper()
	if string(b) != text || !bytes.HasPrefix(b[len(b):cap(b)], []byte{1, 2, 3}) {
		t.Errorf("<%s> and the room behind it were changed: %v", text, b[:cap(b)])
	}
}

func spoil(b []byte) {
	for i := range b[:cap(b)] {
		b[:cap(b)][i] ^= 0xff
	}
}

// P1801: the servers that New is handed are not changed and not kept, nor the room behind them.
func TestNewKeepsNothing(t *testing.T) {
	servers := []int{3, 5, 8, 77, 78}
	c := made(t, 1, servers[:3], 1)
	if !slices.Equal(servers, []int{3, 5, 8, 77, 78}) {
		t.Error(servers)
	}
	for i := range servers {
		servers[i] = 9
	}
	do(t, c, client.Order{Kind: node.Get})
	wantAsked(t, c, 1, 1, 3)
	hear(t, c, node.Answer{ID: 1000001, E: api.ErrLeader, Leader: 8})
	wantAsked(t, c, 1, 2, 8)
	hear(t, c, node.Answer{ID: 1000002, E: api.ErrLeader, Leader: 9})
	wantAsked(t, c, 1, 3, 3)
	tick(t, c, 1)
	wantAsked(t, c, 1, 4, 5)
}

// P1801: the bytes of an order are not changed and not kept.
func TestDoKeepsNothing(t *testing.T) {
	for _, text := range []string{"", "data"} {
		c := inSession(t, 1, []int{0, 1}, 1)
		data := roomy(text)
		do(t, c, client.Order{Kind: node.Put, Data: data})
		wantErr(t, "Do", c.Do(client.Order{Kind: node.Put, Data: data}), api.ErrBusy)
		wantRoom(t, data, text)
		spoil(data)
		tick(t, c, 1)
		ask := node.Ask{ID: 1000002, Kind: node.Put, Session: 9, Seq: 1, Data: []byte(text)}
		asked := []client.Call{{To: 0, Ask: ask}, {To: 1, Ask: ask}}
		asked[1].Ask.ID++
		wantCalls(t, c, asked...)
		spoil(data)
		hear(t, c, node.Answer{ID: 1000003})
		if o, _ := finish(t, c); string(o.Data) != text {
			t.Errorf("<%s>, not <%s>", o.Data, text)
		}
	}
}

// P1801: the records of an answer are not changed and not kept.
func TestHeardKeepsNothing(t *testing.T) {
	c := made(t, 1, []int{0}, 1)
	do(t, c, client.Order{Kind: node.Get, Most: 9})
	all := [][]byte{roomy("a"), roomy(""), roomy("bc"), []byte("room")}
	a := node.Answer{ID: 1000001, Records: all[:3]}
	hear(t, c, a)
	for i, text := range []string{"a", "", "bc"} {
		wantRoom(t, all[i], text)
		spoil(all[i])
	}
	if string(all[3]) != "room" {
		t.Errorf("the room behind the records was changed: %s", all[3])
	}
	clear(all)
	if _, got := finish(t, c); told(got) != told(node.Answer{ID: 1000001, Records: [][]byte{[]byte("a"), nil, []byte("bc")}}) {
		t.Error(told(got))
	}
}

// P1801: what is answered is new memory: who spoils it spoils neither other calls, nor what is asked later, nor the order.
func TestAnswersAreNew(t *testing.T) {
	c := inSession(t, 1, []int{0, 1}, 1)
	data := []byte("data")
	do(t, c, client.Order{Kind: node.Put, Data: data})
	tick(t, c, 1)
	l := c.Calls()
	if len(l) != 2 {
		t.Fatal(called(l))
	}
	spoil(l[0].Ask.Data)
	if string(l[1].Ask.Data) != "data" || string(data) != "data" {
		t.Fatalf("%q, %q", l[1].Ask.Data, data)
	}
	spoil(l[1].Ask.Data)
	tick(t, c, 1)
	// What is asked now does not stand in the room behind what was told.
	clear(l[:cap(l)])
	l = c.Calls()
	wantData := func(b []byte) {
		t.Helper()
		if string(b) != "data" {
			t.Fatalf("%q", b)
		}
	}
	wantData(l[0].Ask.Data)
	records := [][]byte{[]byte("x"), []byte("y")}
	hear(t, c, node.Answer{ID: l[0].Ask.ID, Records: records})
	spoil(l[0].Ask.Data)
	o, a := finish(t, c)
	wantData(o.Data)
	spoil(o.Data)
	spoil(a.Records[0])
	if string(a.Records[1]) != "y" || string(records[0]) != "x" {
		t.Errorf("%q, %q", a.Records, records)
	}
	wantNotDone(t, c)
	do(t, c, client.Order{Kind: node.Put, Data: []byte("data")})
	wantData(last(t, c).Ask.Data)
}

// P1801: Clients share nothing.
func TestApart(t *testing.T) {
	servers := []int{0, 1}
	x, y := made(t, 1, servers, 1), made(t, 1, servers, 1)
	do(t, x, client.Order{Kind: node.Get})
	tick(t, x, 1)
	wantLooks(t, y, false, 0, 0, 0)
	wantCalls(t, y)
	do(t, y, client.Order{Kind: node.Trim})
	wantAsked(t, y, 1, 1, 0)
	hear(t, y, node.Answer{ID: 1000001})
	wantNotDone(t, x)
	finish(t, y)
	wantLooks(t, x, true, 0, 0, 2)
}
