package node_test

import (
	"bytes"
	"slices"
	"testing"

	"hustings/api"
	"hustings/machine"
	"hustings/message"
	"hustings/node"
	"hustings/raft"
	"hustings/snaps"
	"hustings/stable"
)

// P1603: an Ask that may not be: ErrArg, and nothing is answered, or has changed.
func TestAskErrors(t *testing.T) {
	n := alone(t, usual, newDisk(t))
	before := looks(n)
	for _, a := range []node.Ask{
		{},
		{ID: 1},
		{ID: 1, Kind: 7},
		{ID: 1, Kind: -1},
		{ID: 1, Kind: highest},
		{ID: 1, Kind: lowest},
		{ID: 0, Kind: node.OpenSession},
		{ID: -1, Kind: node.Get},
		{ID: lowest, Kind: node.Add},
	} {
		wantErr(t, "Ask", n.Ask(a), api.ErrArg)
	}
	wantAnswers(t, n)
	if looks(n) != before {
		t.Error(looks(n))
	}
}

// P1603, P1604: one server alone: all kinds are answered behind the call, with what the machine tells.
func TestAskAlone(t *testing.T) {
	n := alone(t, usual, newDisk(t))
	for _, c := range []struct {
		a    node.Ask
		want node.Answer
	}{
		{node.Ask{ID: 1, Kind: node.OpenSession}, node.Answer{Session: 2}},
		{node.Ask{ID: 2, Kind: node.Put, Session: 2, Seq: 5, Data: []byte("x")}, node.Answer{Number: 0}},
		{node.Ask{ID: 3, Kind: node.Put, Session: 2, Seq: 6, Data: []byte("y")}, node.Answer{Number: 1}},
		{node.Ask{ID: 4, Kind: node.Put, Session: 2, Seq: 6, Data: []byte("z")}, node.Answer{Number: 1}},
		{node.Ask{ID: 5, Kind: node.Put, Session: 2, Seq: 4}, node.Answer{E: api.ErrOld}},
		{node.Ask{ID: 6, Kind: node.Put, Session: 3, Seq: 1}, node.Answer{E: api.ErrSession}},
		{node.Ask{ID: 7, Kind: node.Get, From: 0, Most: 9}, node.Answer{Number: 2, Records: [][]byte{[]byte("x"), []byte("y")}}},
		{node.Ask{ID: 8, Kind: node.Get, From: 1, Most: 1}, node.Answer{Number: 2, Records: [][]byte{[]byte("y")}}},
		{node.Ask{ID: 9, Kind: node.Get, From: 0, Most: -3}, node.Answer{Number: 2}},
		{node.Ask{ID: 10, Kind: node.Get, From: 2, Most: highest}, node.Answer{Number: 2}},
		{node.Ask{ID: 11, Kind: node.Trim, From: 1}, node.Answer{Number: 1}},
		{node.Ask{ID: 12, Kind: node.Get, From: 1, Most: 9}, node.Answer{Session: 1, Number: 2, Records: [][]byte{[]byte("y")}}},
		{node.Ask{ID: 13, Kind: node.Get, From: 0, Most: 9}, node.Answer{E: api.ErrBelow, Session: 1, Number: 2}},
		{node.Ask{ID: 14, Kind: node.Get, From: 3, Most: 9}, node.Answer{E: api.ErrRange, Session: 1, Number: 2}},
		{node.Ask{ID: 15, Kind: node.Get, From: lowest}, node.Answer{E: api.ErrBelow, Session: 1, Number: 2}},
		{node.Ask{ID: 16, Kind: node.Drop, From: 0}, node.Answer{E: api.ErrServer}},
		{node.Ask{ID: 17, Kind: node.Drop, From: 1}, node.Answer{E: api.ErrServer}},
		{node.Ask{ID: 18, Kind: node.Add, From: 0}, node.Answer{E: api.ErrServer}},
		{node.Ask{ID: 19, Kind: node.Add, From: 16}, node.Answer{E: api.ErrArg}},
		{node.Ask{ID: 20, Kind: node.Drop, From: lowest}, node.Answer{E: api.ErrArg}},
		{node.Ask{ID: 21, Kind: node.Put, Session: 0, Seq: 1}, node.Answer{E: api.ErrArg}},
		{node.Ask{ID: 22, Kind: node.Put, Session: 2, Seq: 1 << 40}, node.Answer{E: api.ErrArg}},
		{node.Ask{ID: 23, Kind: node.Put, Session: 2, Seq: 7, Data: make([]byte, 1025)}, node.Answer{E: api.ErrSize}},
		{node.Ask{ID: 24, Kind: node.Put, Session: 2, Seq: 7, Data: make([]byte, 1024)}, node.Answer{Number: 2}},
		{node.Ask{ID: 25, Kind: node.Trim, From: -1}, node.Answer{E: api.ErrArg}},
		{node.Ask{ID: 26, Kind: node.Trim, From: 1<<40 - 1}, node.Answer{Number: 3}},
		{node.Ask{ID: highest, Kind: node.OpenSession, Session: -5, Seq: -5, From: -5, Most: -5, Data: []byte("not asked for")}, node.Answer{Session: 11}},
		{node.Ask{ID: 1, Kind: node.Add, From: 1}, node.Answer{}},
	} {
		wantErr(t, "Ask", n.Ask(c.a), api.OK)
		if c.a.Kind == node.Add && c.a.From == 1 {
			// It takes two for that now.
			wantAnswers(t, n)
			step(t, n, got(1, 0, 1, n.Last(), 0, true))
		}
		c.want.ID, c.want.Leader = c.a.ID, 0
		wantAnswers(t, n, c.want)
	}
	if !slices.Equal(n.Servers(), []int{0, 1}) || n.Applied() != n.Last() {
		t.Error(looks(n))
	}
}

// P1603: what the machine's command refuses is told ahead of what the raft does; each Answer tells the leader that is known.
func TestAskOfFollower(t *testing.T) {
	n := opened(t, usual, 0, []int{0, 1, 2}, newDisk(t))
	for _, leader := range []int{-1, 2} {
		if leader == 2 {
			step(t, n, appends(2, 0, 1, 0, 0, 0, 1))
			n.Messages()
		}
		before := looks(n)
		ask(t, n,
			node.Ask{ID: 1, Kind: node.OpenSession},
			node.Ask{ID: 2, Kind: node.Put, Session: 1, Seq: 1},
			node.Ask{ID: 3, Kind: node.Put, Session: -1, Seq: 1},
			node.Ask{ID: 4, Kind: node.Put, Session: 1, Seq: 1, Data: make([]byte, 1025)},
			node.Ask{ID: 5, Kind: node.Get, From: -1},
			node.Ask{ID: 6, Kind: node.Trim},
			node.Ask{ID: 7, Kind: node.Trim, From: -1},
			node.Ask{ID: 8, Kind: node.Add, From: 77},
			node.Ask{ID: 8, Kind: node.Drop, From: 1},
		)
		wantAnswers(t, n,
			node.Answer{ID: 1, E: api.ErrLeader, Leader: leader},
			node.Answer{ID: 2, E: api.ErrLeader, Leader: leader},
			node.Answer{ID: 3, E: api.ErrArg, Leader: leader},
			node.Answer{ID: 4, E: api.ErrSize, Leader: leader},
			node.Answer{ID: 5, E: api.ErrLeader, Leader: leader},
			node.Answer{ID: 6, E: api.ErrLeader, Leader: leader},
			node.Answer{ID: 7, E: api.ErrArg, Leader: leader},
			node.Answer{ID: 8, E: api.ErrLeader, Leader: leader},
			node.Answer{ID: 8, E: api.ErrLeader, Leader: leader},
		)
		wantAnswers(t, n)
		wantLetters(t, n)
		if looks(n) != before {
			t.Error(looks(n))
		}
	}
}

// P1603, P1604: an answer waits till its entry is applied, and its ID may not be asked meanwhile; answers come in the order of the entries.
func TestAskWaits(t *testing.T) {
	n := leading(t, usual, newDisk(t))
	ask(t, n,
		node.Ask{ID: 9, Kind: node.OpenSession},
		node.Ask{ID: 7, Kind: node.Put, Session: 2, Seq: 1, Data: []byte("x")},
		node.Ask{ID: 8, Kind: node.Get, Most: 5},
		node.Ask{ID: 6, Kind: node.Put, Session: 3, Seq: 1, Data: []byte("y")},
	)
	wantAnswers(t, n)
	wantLooks(t, n, raft.Leads, 1, 0, 1, 0, 4)
	for _, id := range []int{6, 7, 8, 9} {
		for kind := node.OpenSession; kind <= node.Drop; kind++ {
			wantErr(t, "Ask", n.Ask(node.Ask{ID: id, Kind: kind}), api.ErrArg)
		}
	}
	wantAnswers(t, n)
	n.Messages()
	step(t, n, got(1, 0, 1, 3, 0, true))
	wantAnswers(t, n, node.Answer{ID: 9, Session: 2}, node.Answer{ID: 7})
	wantRecords(t, n, "x")
	step(t, n, got(2, 0, 1, 3, 2, true))
	wantAnswers(t, n, node.Answer{ID: 8, Number: 1, Records: [][]byte{[]byte("x")}})
	step(t, n, got(2, 0, 1, 4, 2, true))
	wantAnswers(t, n, node.Answer{ID: 6, E: api.ErrSession})
	// An ID that was answered may be asked again, though its Answer was not looked at yet.
	ask(t, n, node.Ask{ID: 6, Kind: node.Add, From: 1}, node.Ask{ID: 6, Kind: node.Get}, node.Ask{ID: 8, Kind: node.Get})
	wantAnswers(t, n, node.Answer{ID: 6, E: api.ErrServer})
	wantErr(t, "Ask", n.Ask(node.Ask{ID: 6, Kind: node.Add, From: 1}), api.ErrArg)
}

// P1604: in one call entries are answered first, then reads that are ready.
func TestAnswersInOrder(t *testing.T) {
	n := leading(t, usual, newDisk(t))
	ask(t, n, node.Ask{ID: 1, Kind: node.Get, Most: 9}, node.Ask{ID: 2, Kind: node.OpenSession}, node.Ask{ID: 3, Kind: node.Put, Session: 2, Seq: 1, Data: []byte("x")}, node.Ask{ID: 4, Kind: node.Get, Most: 9})
	step(t, n, got(2, 0, 1, 3, 3, true))
	x := [][]byte{[]byte("x")}
	wantAnswers(t, n, node.Answer{ID: 2, Session: 2}, node.Answer{ID: 3}, node.Answer{ID: 1, Number: 1, Records: x}, node.Answer{ID: 4, Number: 1, Records: x})
}

// P1603: a Get, an Add and a Drop ahead of an entry of its own term, a second change, and too many reads: the raft's errors, at once.
func TestAskTooEarly(t *testing.T) {
	n := opened(t, usual, 0, []int{0, 1, 2}, newDisk(t))
	elect(t, n)
	ask(t, n, node.Ask{ID: 1, Kind: node.Get}, node.Ask{ID: 2, Kind: node.Add, From: 3}, node.Ask{ID: 3, Kind: node.Drop, From: 1})
	wantAnswers(t, n, node.Answer{ID: 1, E: api.ErrEarly}, node.Answer{ID: 2, E: api.ErrEarly}, node.Answer{ID: 3, E: api.ErrEarly})
	step(t, n, got(1, 0, 1, 1, 1, true))
	ask(t, n, node.Ask{ID: 2, Kind: node.Add, From: 3}, node.Ask{ID: 3, Kind: node.Drop, From: 1})
	wantAnswers(t, n, node.Answer{ID: 3, E: api.ErrBusy})
	for id := 10; id < 110; id++ {
		ask(t, n, node.Ask{ID: id, Kind: node.Get})
	}
	wantAnswers(t, n)
	ask(t, n, node.Ask{ID: 110, Kind: node.Get})
	wantAnswers(t, n, node.Answer{ID: 110, E: api.ErrFull})
	// The change is answered when more than half of the four have it.
	step(t, n, got(1, 0, 1, 2, 1, true))
	wantAnswers(t, n)
	step(t, n, got(2, 0, 1, 2, 1, true))
	wantAnswers(t, n, node.Answer{ID: 2})
}

// P1603: a log without room.
func TestAskFull(t *testing.T) {
	var l []api.Entry
	for i := range api.MaxLog - 2 {
		l = append(l, none(1, i+1))
	}
	d := newDisk(t)
	lay(t, d, stable.Vote{Term: 1, For: -1}, 0, 0, l...)
	n := opened(t, usual, 0, []int{0, 1, 2}, d)
	elect(t, n)
	ask(t, n, node.Ask{ID: 1, Kind: node.OpenSession})
	wantAnswers(t, n)
	before := looks(n)
	ask(t, n, node.Ask{ID: 2, Kind: node.OpenSession}, node.Ask{ID: 3, Kind: node.Trim})
	wantAnswers(t, n, node.Answer{ID: 2, E: api.ErrFull}, node.Answer{ID: 3, E: api.ErrFull})
	if looks(n) != before {
		t.Error("it has changed")
	}
}

// deposed: another one leads in a higher term, and is told nothing yet.
func deposed(t *testing.T, n *node.Node, term int) {
	t.Helper()
	step(t, n, appends(2, 0, term, 1, 1, 1, 1))
	n.Messages()
}

// P1604: an entry that a later leader kept is answered all the same; one that it put another one in the place of: ErrLeader.
func TestAskOfDeposed(t *testing.T) {
	n := leading(t, usual, newDisk(t))
	ask(t, n, node.Ask{ID: 4, Kind: node.OpenSession}, node.Ask{ID: 3, Kind: node.OpenSession}, node.Ask{ID: 2, Kind: node.OpenSession}, node.Ask{ID: 1, Kind: node.OpenSession})
	deposed(t, n, 3)
	wantAnswers(t, n)
	wantErr(t, "Ask", n.Ask(node.Ask{ID: 3, Kind: node.Get}), api.ErrArg)
	step(t, n, appends(2, 0, 3, 2, 1, 2, 2, none(3, 3), opens(3, 4)))
	wantAnswers(t, n, node.Answer{ID: 4, Session: 2, Leader: 2})
	// The fifth index has no entry now, but it may come to have one.
	wantErr(t, "Ask", n.Ask(node.Ask{ID: 1, Kind: node.Get}), api.ErrArg)
	step(t, n, appends(2, 0, 3, 4, 3, 4, 3))
	wantAnswers(t, n, node.Answer{ID: 3, E: api.ErrLeader, Leader: 2}, node.Answer{ID: 2, E: api.ErrLeader, Leader: 2})
	step(t, n, appends(1, 0, 5, 4, 3, 5, 3, listed(5, 5, 0, 1)))
	wantAnswers(t, n, node.Answer{ID: 1, E: api.ErrLeader, Leader: 1})
}

// P1604: a change of its own term is OK, also when a later leader commits it; of another term ErrLeader.
func TestChangeOfDeposed(t *testing.T) {
	for _, kept := range []bool{true, false} {
		n := leading(t, usual, newDisk(t))
		ask(t, n, node.Ask{ID: 1, Kind: node.Drop, From: 1})
		wantAnswers(t, n)
		deposed(t, n, 3)
		if kept {
			step(t, n, appends(2, 0, 3, 2, 1, 2, 2))
			wantAnswers(t, n, node.Answer{ID: 1, Leader: 2})
		} else {
			step(t, n, appends(2, 0, 3, 1, 1, 2, 2, listed(3, 2, 0, 2)))
			wantAnswers(t, n, node.Answer{ID: 1, E: api.ErrLeader, Leader: 2})
		}
	}
}

// P1603: who waited for the index that another one is to wait for: ErrLeader, at once.
func TestAskTakesPlace(t *testing.T) {
	n := leading(t, usual, newDisk(t))
	ask(t, n, node.Ask{ID: 1, Kind: node.OpenSession}, node.Ask{ID: 2, Kind: node.OpenSession}, node.Ask{ID: 3, Kind: node.OpenSession})
	deposed(t, n, 3)
	step(t, n, appends(2, 0, 3, 1, 1, 1, 2, none(3, 2)))
	wantAnswers(t, n)
	elect(t, n)
	wantLooks(t, n, raft.Leads, 4, 0, 1, 0, 3)
	n.Messages()
	ask(t, n, node.Ask{ID: 5, Kind: node.OpenSession})
	wantAnswers(t, n, node.Answer{ID: 3, E: api.ErrLeader})
	wantErr(t, "Ask", n.Ask(node.Ask{ID: 2, Kind: node.OpenSession}), api.ErrArg)
	ask(t, n, node.Ask{ID: 3, Kind: node.Put, Session: 4, Seq: 1, Data: []byte("x")})
	step(t, n, got(1, 0, 4, 5, 0, true))
	wantAnswers(t, n, node.Answer{ID: 1, E: api.ErrLeader}, node.Answer{ID: 2, E: api.ErrLeader}, node.Answer{ID: 5, Session: 4}, node.Answer{ID: 3})
}

// P1604: reads of one that leads no more are lost: ErrLeader, with the leader that is known then.
func TestReadsLost(t *testing.T) {
	n := leading(t, usual, newDisk(t))
	ask(t, n, node.Ask{ID: 5, Kind: node.Get}, node.Ask{ID: 4, Kind: node.Get}, node.Ask{ID: 3, Kind: node.OpenSession})
	step(t, n, got(1, 0, 3, 0, 0, false))
	wantAnswers(t, n, node.Answer{ID: 5, E: api.ErrLeader, Leader: -1}, node.Answer{ID: 4, E: api.ErrLeader, Leader: -1})
	n = leading(t, usual, newDisk(t))
	ask(t, n, node.Ask{ID: 5, Kind: node.Get}, node.Ask{ID: 4, Kind: node.OpenSession})
	step(t, n, appends(2, 0, 3, 1, 1, 2, 1, none(3, 2)))
	wantAnswers(t, n, node.Answer{ID: 4, E: api.ErrLeader, Leader: 2}, node.Answer{ID: 5, E: api.ErrLeader, Leader: 2})
	step(t, n, got(1, 0, 3, 2, 9, true))
	wantAnswers(t, n)
	ask(t, n, node.Ask{ID: 5, Kind: node.Get})
	wantAnswers(t, n, node.Answer{ID: 5, E: api.ErrLeader, Leader: 2})
}

// P1604: who waits for an index that a snapshot passed over: ErrWait, in the order of the indexes, ahead of the reads that are lost; those above it wait on.
func TestPassedOver(t *testing.T) {
	l := []api.Entry{none(1, 1), opens(3, 2), puts(3, 3, 2, 1, "x")}
	n := leading(t, usual, newDisk(t))
	ask(t, n, node.Ask{ID: 9, Kind: node.OpenSession}, node.Ask{ID: 8, Kind: node.OpenSession}, node.Ask{ID: 7, Kind: node.OpenSession}, node.Ask{ID: 1, Kind: node.Get})
	n.Messages()
	step(t, n, whole(2, 0, 3, snapshot(t, []int{0, 2}, l...), 1))
	wantAnswers(t, n, node.Answer{ID: 9, E: api.ErrWait, Leader: 2}, node.Answer{ID: 8, E: api.ErrWait, Leader: 2}, node.Answer{ID: 1, E: api.ErrLeader, Leader: 2})
	wantLetters(t, n, have(0, 2, 3, 3, 1, true))
	wantLooks(t, n, raft.Follows, 3, 2, 3, 3, 3)
	wantRecords(t, n, "x")
	if !slices.Equal(n.Servers(), []int{0, 2}) {
		t.Error(n.Servers())
	}
	wantErr(t, "Ask", n.Ask(node.Ask{ID: 7, Kind: node.Get}), api.ErrArg)
	step(t, n, appends(2, 0, 3, 3, 3, 4, 2, puts(3, 4, 2, 2, "y")))
	wantAnswers(t, n, node.Answer{ID: 7, E: api.ErrLeader, Leader: 2})
	wantRecords(t, n, "x", "y")
}

// P1604: so also where the snapshot ends with an entry that is here, and entries behind it stay.
func TestPassedOverStay(t *testing.T) {
	n := leading(t, usual, newDisk(t))
	ask(t, n, node.Ask{ID: 9, Kind: node.OpenSession}, node.Ask{ID: 8, Kind: node.OpenSession})
	n.Messages()
	step(t, n, whole(2, 0, 3, snapshot(t, []int{0, 1, 2}, none(1, 1), opens(1, 2)), 1))
	wantAnswers(t, n, node.Answer{ID: 9, E: api.ErrWait, Leader: 2})
	wantLooks(t, n, raft.Follows, 3, 2, 2, 2, 3)
	step(t, n, appends(2, 0, 3, 3, 1, 3, 2))
	wantAnswers(t, n, node.Answer{ID: 8, Session: 3, Leader: 2})
}

// P1604: however many they are, they are told in the order of the indexes.
func TestManyPassedOver(t *testing.T) {
	n := leading(t, usual, newDisk(t))
	var want []node.Answer
	for i := range 30 {
		ask(t, n, node.Ask{ID: 100 - i, Kind: node.OpenSession})
		want = append(want, node.Answer{ID: 100 - i, E: api.ErrWait, Leader: 2})
	}
	step(t, n, whole(2, 0, 3, snaps.Snapshot{Index: 500, Term: 3, Servers: []int{0, 1, 2}, Data: saved(t)}, 1))
	wantAnswers(t, n, want...)
}

// P1604: a leader that drops itself answers for that, and knows no leader then; reads that are ready are answered, and those that wait are lost.
func TestDropItself(t *testing.T) {
	n := leading(t, usual, newDisk(t))
	ask(t, n, node.Ask{ID: 1, Kind: node.Drop, From: 0})
	n.Messages()
	ask(t, n, node.Ask{ID: 2, Kind: node.Get})
	round := letters(t, n)[0].D
	ask(t, n, node.Ask{ID: 3, Kind: node.Get})
	step(t, n, got(1, 0, 1, 2, round, true))
	wantAnswers(t, n)
	wantLooks(t, n, raft.Leads, 1, 0, 1, 0, 2)
	step(t, n, got(2, 0, 1, 2, round, true))
	wantAnswers(t, n, node.Answer{ID: 1, Leader: -1}, node.Answer{ID: 2, Leader: -1}, node.Answer{ID: 3, E: api.ErrLeader, Leader: -1})
	wantLooks(t, n, raft.Follows, 1, -1, 2, 0, 2)
}

// P1603: Step: bytes that are no message: ErrForm; one that is not for it, or from it: ErrArg; nothing has changed.
func TestStepErrors(t *testing.T) {
	d := newDisk(t)
	n := leading(t, usual, d)
	before, was := looks(n), files(d)
	right := put(t, appends(1, 0, 9, 1, 1, 1, 1))
	for _, b := range [][]byte{nil, {}, {0}, []byte("nothing"), right[1:], right[:len(right)-1], append(slices.Clone(right), 0), bytes.Repeat([]byte{255}, 70000)} {
		wantErr(t, "Step", n.Step(b, 0), api.ErrForm)
	}
	for _, m := range []message.Message{appends(1, 1, 9, 1, 1, 1, 1), appends(0, 0, 9, 1, 1, 1, 1), appends(1, 15, 9, 1, 1, 1, 1)} {
		wantErr(t, "Step", n.Step(put(t, m), 0), api.ErrArg)
	}
	wantLetters(t, n)
	wantAnswers(t, n)
	if looks(n) != before || files(d) != was {
		t.Error(looks(n))
	}
}

// P1603: the draw of a Step and of a Tick is the timer's next limit.
func TestDraws(t *testing.T) {
	n := opened(t, usual, 0, []int{0, 1, 2}, newDisk(t))
	wantErr(t, "Step", n.Step(put(t, appends(1, 0, 1, 0, 0, 0, 1)), 3), api.OK)
	tick(t, n, 7)
	wantLooks(t, n, raft.Follows, 1, 1, 0, 0, 0)
	wantErr(t, "Tick", n.Tick(2), api.OK)
	wantLooks(t, n, raft.Tries, 1, -1, 0, 0, 0)
	n.Messages()
	tick(t, n, 6)
	wantLetters(t, n)
	tick(t, n, 1)
	if l := letters(t, n); len(l) != 2 || l[0].Kind != message.Ask || l[0].C != 1 {
		t.Error(len(l))
	}
}

// P1604: what a machine refuses by itself, since a snapshot says that it is further than its index, is an answer too, and what lies behind is applied.
func TestMachineAhead(t *testing.T) {
	m, _ := machine.New(usual.Span)
	m.Apply(4, machine.Open())
	n := opened(t, usual, 0, []int{0, 1}, newDisk(t))
	step(t, n, whole(1, 0, 1, snaps.Snapshot{Index: 2, Term: 1, Servers: []int{0}, Data: m.Save()}, 1))
	wantLooks(t, n, raft.Follows, 1, 1, 2, 2, 2)
	elect(t, n)
	ask(t, n, node.Ask{ID: 1, Kind: node.OpenSession}, node.Ask{ID: 2, Kind: node.Put, Session: 4, Seq: 1, Data: []byte("x")})
	wantAnswers(t, n, node.Answer{ID: 1, E: api.ErrGap}, node.Answer{ID: 2})
	wantRecords(t, n, "x")
}
