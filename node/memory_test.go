package node_test

import (
	"bytes"
	"slices"
	"testing"

	"hustings/api"
	"hustings/node"
	"hustings/raft"
)

// The lists that are handed in here have room behind them, in which bytes stand that must stay.

func roomy(b []byte) []byte {
	return append(append(make([]byte, 0, len(b)+3), b...), 1, 2, 3)[:len(b)]
}

func wantRoom(t *testing.T, what string, b []byte) {
	t.Helper()
	if room := b[len(b):cap(b)]; !bytes.HasPrefix(room, []byte{1, 2, 3}) {
		t.Errorf("%s: the room behind its bytes was changed: %v", what, room)
	}
}

func spoil(b []byte) {
	for i := range b[:cap(b)] {
		b[:cap(b)][i] ^= 0xff
	}
}

func spoilAll(l [][]byte) {
	for _, b := range l[:cap(l)] {
		spoil(b)
	}
	clear(l[:cap(l)])
}

// P1601: the servers that Open is handed are not kept and not changed, nor the room behind them.
func TestOpenKeepsNothing(t *testing.T) {
	servers := append(make([]int, 0, 5), 0, 1, 2, 77, 78)[:3]
	n := opened(t, usual, 0, servers, newDisk(t))
	if !slices.Equal(servers[:5], []int{0, 1, 2, 77, 78}) {
		t.Error(servers[:5])
	}
	for i := range servers[:5] {
		servers[:5][i] = 9
	}
	if !slices.Equal(n.Servers(), []int{0, 1, 2}) {
		t.Error(n.Servers())
	}
}

// P1601: bytes that are handed in are not kept and not changed.
func TestCallsKeepNothing(t *testing.T) {
	n := alone(t, usual, newDisk(t))
	ask(t, n, node.Ask{ID: 1, Kind: node.OpenSession})
	data := roomy([]byte("data"))
	ask(t, n, node.Ask{ID: 2, Kind: node.Put, Session: 2, Seq: 1, Data: data})
	wantRoom(t, "Ask", data)
	if string(data) != "data" {
		t.Errorf("<%s>", data)
	}
	spoil(data)
	wantRecords(t, n, "data")
	seen := looks(n)
	spoil(data)
	if looks(n) != seen {
		t.Error(looks(n))
	}

	n = opened(t, usual, 0, []int{0, 1}, newDisk(t))
	m := appends(1, 0, 1, 0, 0, 2, 1, opens(1, 1), puts(1, 2, 1, 1, "x"))
	b := roomy(put(t, m))
	wantErr(t, "Step", n.Step(b, 0), api.OK)
	wantRoom(t, "Step", b)
	if !bytes.Equal(b, put(t, m)) {
		t.Errorf("%x", b)
	}
	spoil(b)
	wantRecords(t, n, "x")
	if row(n.View().L) != row(m.Entries) {
		t.Error(looks(n))
	}

	s, _ := installed(t)
	b = put(t, whole(1, 0, 3, s, 1))
	wantErr(t, "Step", n.Step(b, 0), api.OK)
	spoil(b)
	wantRecords(t, n, "x", "y")
}

// P1601: what is told is new memory: who spoils it spoils nothing else.
func TestAnswersAreNew(t *testing.T) {
	d := newDisk(t)
	n := leading(t, keeping(6), d)
	ask(t, n, node.Ask{ID: 1, Kind: node.OpenSession}, node.Ask{ID: 2, Kind: node.Put, Session: 2, Seq: 1, Data: []byte("x")}, node.Ask{ID: 3, Kind: node.Put, Session: 2, Seq: 2, Data: []byte("y")})
	step(t, n, got(1, 0, 1, 4, 1, true))
	ask(t, n, node.Ask{ID: 4, Kind: node.Get, Most: 9}, node.Ask{ID: 5, Kind: node.Get, Most: 9})
	step(t, n, got(1, 0, 1, 4, 9, true))
	seen, was := looks(n), files(d)
	l := n.Answers()
	if len(l) != 5 || len(l[3].Records) != 2 || len(l[4].Records) != 2 {
		t.Fatal(said(l))
	}
	spoilAll(l[3].Records)
	if want := [][]byte{[]byte("x"), []byte("y")}; !slices.EqualFunc(l[4].Records, want, bytes.Equal) {
		t.Errorf("two answers share memory: %s", l[4].Records)
	}
	clear(l[:cap(l)])
	spoilAll(n.Messages())
	v := n.View()
	for i := range v.L {
		spoil(v.L[i].Data)
	}
	clear(v.L[:cap(v.L)])
	servers := n.Servers()
	clear(servers[:cap(servers)])
	records, _ := n.Read(0, 9)
	spoilAll(records)
	if looks(n) != seen || files(d) != was {
		t.Errorf("%s\nnot\n%s", looks(n), seen)
	}
	// So it goes on, into a snapshot, too.
	ask(t, n, node.Ask{ID: 6, Kind: node.Put, Session: 2, Seq: 3, Data: []byte("z")}, node.Ask{ID: 7, Kind: node.Trim})
	spoilAll(n.Messages())
	step(t, n, got(1, 0, 1, 6, 9, true))
	wantLooks(t, n, raft.Leads, 1, 0, 6, 6, 6)
	wantRecords(t, n, "x", "y", "z")
	n = opened(t, keeping(6), 0, nil, d)
	wantRecords(t, n, "x", "y", "z")
}

// P1601: messages and answers that come behind others do not stand in the room behind those.
func TestToldApart(t *testing.T) {
	n := opened(t, usual, 0, []int{0, 1, 2}, newDisk(t))
	step(t, n, appends(1, 0, 1, 0, 0, 0, 1), appends(1, 0, 1, 0, 0, 0, 2), appends(1, 0, 1, 0, 0, 0, 3))
	ask(t, n, node.Ask{ID: 1, Kind: node.Get}, node.Ask{ID: 2, Kind: node.Get}, node.Ask{ID: 3, Kind: node.Get})
	l, a := n.Messages(), n.Answers()
	step(t, n, appends(1, 0, 1, 0, 0, 0, 4))
	ask(t, n, node.Ask{ID: 4, Kind: node.Get})
	spoilAll(l)
	clear(a[:cap(a)])
	wantLetters(t, n, got(0, 1, 1, 0, 4, true))
	wantAnswers(t, n, node.Answer{ID: 4, E: api.ErrLeader, Leader: 1})
}
