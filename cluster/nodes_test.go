package cluster_test

import (
	"bytes"
	"fmt"
	"strings"
	"testing"

	"hustings/api"
	"hustings/client"
	"hustings/cluster"
	"hustings/node"
)

// P2101: of a node that does not run.
func TestDown(t *testing.T) {
	c := led(t, usual(3, 0))
	wantErr(t, "Crash", c.Crash(1), api.OK)
	before := c.State()
	notRunning(t, c, 1)
	if !bytes.Equal(c.State(), before) {
		t.Error("a call that was refused changed something")
	}
	wantErr(t, "Start", c.Start(1, nil, 0), api.OK)
	want(t, "Up", c.Up(1), true)
	wantErr(t, "Tick", c.Tick(1, 0), api.OK)
}

// notRunning: what a node that crashed, or is down, answers and tells.
func notRunning(t *testing.T, c *cluster.Cluster, n int) {
	t.Helper()
	want(t, "Up", c.Up(n), false)
	wantErr(t, "Tick", c.Tick(n, 0), api.ErrDown)
	wantErr(t, "Crash", c.Crash(n), api.ErrDown)
	wantErr(t, "Cut", c.Cut(n, 0), api.ErrDown)
	want(t, "looks", nodeLooks(c, n), "false 0 0 0 false 0 0 [] [] false []")
}

// P2103: Tick is the node's, with its draw: at the limit that the draw of the last reset says it asks the others.
func TestTick(t *testing.T) {
	for _, draw := range []int{0, 1, 7, 8, 13, -1, lowest, highest} {
		c := made(t, usual(2, 0))
		for range 8 {
			wantErr(t, "Tick", c.Tick(0, draw), api.OK)
		}
		want(t, "Waiting", c.Waiting(), 1)
		limit := 8 + (draw%8+8)%8
		for k := range limit {
			want(t, "Waiting", c.Waiting(), 1)
			wantErr(t, "Tick", c.Tick(0, 0), api.OK)
			if k+1 == limit {
				want(t, "Waiting at the next limit", c.Waiting(), 2)
			}
		}
	}
}

// P2103: a letter is delivered with the draw: who votes waits from then on as long as it says.
func TestDeliver(t *testing.T) {
	for _, draw := range []int{0, 3, 7, 9, -1, lowest, highest} {
		c := made(t, usual(2, 0))
		tick(t, c, 0, 8)
		deliver(t, c, 2) // asked whether it would, 1 says that it would
		want(t, "Waiting", c.Waiting(), 1)
		wantErr(t, "Deliver", c.Deliver(0, draw), api.OK) // asked for its vote
		limit := 8 + (draw%8+8)%8
		tick(t, c, 1, limit-1)
		want(t, "Waiting ahead of its limit", c.Waiting(), 1)
		tick(t, c, 1, 1)
		want(t, "Waiting at its limit", c.Waiting(), 2)
	}
}

// snapLetters: how many letters are delivered till a node that is new has the snapshot of a machine with a record of that size.
func snapLetters(t *testing.T, size int) int {
	t.Helper()
	c := inSession(t, cluster.Options{Servers: 1, All: 2, Clients: 1, Keep: 1, Span: 1 << 20, Quota: api.MaxBytes})
	ended(t, c, 0, put(strings.Repeat("x", size)))
	do(t, c, 0, client.Order{Kind: node.Add, From: 1})
	wantErr(t, "Carry", c.Carry(0, true), api.OK)
	for letters := range 100 {
		if l, _ := c.Records(1); len(l) > 0 {
			return letters
		}
		deliver(t, c, 1)
	}
	t.Fatal("the new node has no snapshot")
	return 0
}

// Words: Chunk 64: each 64 bytes more of a snapshot are one message more, and its answer.
func TestChunk(t *testing.T) {
	var steps []int
	for size := range 127 {
		switch more := snapLetters(t, size+1) - snapLetters(t, size); more {
		case 0:
		case 2:
			steps = append(steps, size)
		default:
			t.Fatalf("a record of %d bytes takes %d letters more than one of %d", size+1, more, size)
		}
	}
	if len(steps) != 2 || steps[1]-steps[0] != 64 {
		t.Fatalf("one message more at the sizes %v", steps)
	}
}

// P2103: net.Take's errors, and no others.
func TestDeliverErrors(t *testing.T) {
	c := made(t, usual(3, 0))
	tick(t, c, 0, 8)
	want(t, "Waiting", c.Waiting(), 2)
	for _, k := range []int{-1, 2, 3, lowest, highest} {
		wantErr(t, fmt.Sprint("Deliver of ", k), c.Deliver(k, 0), api.ErrNone)
		wantErr(t, fmt.Sprint("Lose of ", k), c.Lose(k), api.ErrNone)
		wantErr(t, fmt.Sprint("Double of ", k), c.Double(k), api.ErrNone)
	}
	wantErr(t, "Wall", c.Wall([]int{2}), api.OK)
	wantErr(t, "Deliver through the wall", c.Deliver(1, 0), api.ErrBusy)
	wantErr(t, "Deliver on one side", c.Deliver(0, 0), api.OK)
	want(t, "Waiting", c.Waiting(), 2)
	wantErr(t, "Wall", c.Wall(nil), api.OK)
	wantErr(t, "Deliver where none stands", c.Deliver(0, 0), api.OK)
}

// P2103: to a node that does not run, or to a server that is none, a letter is lost.
func TestDeliverLost(t *testing.T) {
	c := made(t, usual(3, 0))
	tick(t, c, 0, 8)
	c.Crash(1)
	wantErr(t, "Deliver", c.Deliver(0, 0), api.OK)
	want(t, "Waiting", c.Waiting(), 1)
	wantErr(t, "Start", c.Start(1, nil, 0), api.OK)
	tick(t, c, 1, 7)
	want(t, "Waiting", c.Waiting(), 1)

	c = led(t, usual(3, 1))
	ended(t, c, 0, client.Order{Kind: node.Add, From: 15})
	want(t, "servers", fmt.Sprint(serversOf(t, c, 0)), "[0 1 2 15]")
	want(t, "Waiting", c.Waiting() > 0, true)
	for c.Waiting() > 0 {
		deliver(t, c, 1)
	}
	want(t, "Up", c.Up(15), false)
}

// P2103: Lose and Double are the net's: a letter goes, or comes once more behind the others, up to 500.
func TestLoseDouble(t *testing.T) {
	c := made(t, usual(3, 0))
	tick(t, c, 0, 8)
	wantErr(t, "Lose", c.Lose(0), api.OK)
	want(t, "Waiting", c.Waiting(), 1)
	c.Crash(1)
	wantErr(t, "Deliver", c.Deliver(0, 0), api.OK)
	want(t, "Waiting for what 2 says", c.Waiting(), 1)
	for k := range 499 {
		wantErr(t, "Double", c.Double(k), api.OK)
	}
	want(t, "Waiting", c.Waiting(), 500)
	wantErr(t, "Double where there is no room", c.Double(0), api.ErrFull)
	wantErr(t, "Double of none where there is no room", c.Double(500), api.ErrNone)
	// What a node sends is lost now, but the call is done.
	tick(t, c, 2, 20)
	want(t, "Waiting", c.Waiting(), 500)
	// A yes is heard: 0 asks two for their votes, and only one letter has room.
	deliver(t, c, 1)
	want(t, "Waiting", c.Waiting(), 500)
	wantErr(t, "Lose", c.Lose(499), api.OK)
	want(t, "Waiting", c.Waiting(), 499)
}

// P2103: a wall is the net's; a letter that does not pass it when it is sent is lost.
func TestWall(t *testing.T) {
	for _, x := range []struct {
		ids []int
		e   api.Errno
	}{
		{nil, 0}, {[]int{}, 0}, {[]int{0}, 0}, {[]int{15}, 0}, {[]int{2, 0, 2}, 0},
		{[]int{-1}, api.ErrArg}, {[]int{0, 16}, api.ErrArg}, {[]int{lowest}, api.ErrArg}, {[]int{highest, 0}, api.ErrArg},
	} {
		c := made(t, usual(3, 0))
		wantErr(t, fmt.Sprint("Wall around ", x.ids), c.Wall(x.ids), x.e)
	}
	for _, x := range []struct {
		ids     []int
		letters int
	}{{nil, 2}, {[]int{0}, 0}, {[]int{1}, 1}, {[]int{0, 2}, 1}, {[]int{1, 2}, 0}, {[]int{0, 1, 2}, 2}, {[]int{7}, 2}} {
		c := made(t, usual(3, 0))
		wantErr(t, "Wall", c.Wall(x.ids), api.OK)
		tick(t, c, 0, 8)
		want(t, fmt.Sprint("letters through a wall around ", x.ids), c.Waiting(), x.letters)
		wantErr(t, "Wall", c.Wall(nil), api.OK)
		want(t, "letters once it is gone", c.Waiting(), x.letters)
	}
}

// P2103: who crashed runs no more, is as its disk tells when it starts, and has what it told.
func TestCrashStart(t *testing.T) {
	c := inSession(t, usual(3, 1))
	ended(t, c, 0, put("x"))
	settle(t, c, 10)
	for n := range 3 {
		before, _ := c.Seen(n)
		wantErr(t, "Start of one that runs", c.Start(n, []int{1}, 0), api.ErrBusy)
		wantErr(t, "Crash", c.Crash(n), api.OK)
		notRunning(t, c, n)
		wantErr(t, "Start", c.Start(n, nil, 0), api.OK)
		wantErr(t, "Start of one that started", c.Start(n, nil, 0), api.ErrBusy)
		s, ok := c.Seen(n)
		if !ok || s.Leads || s.Term != before.Term || s.Commit != 0 || viewed(s) != viewed(before) {
			t.Errorf("node %d was %+v, and is %+v", n, before, s)
		}
		want(t, "records", recordsOf(t, c, n), "")
		settle(t, c, 60)
		want(t, "records", recordsOf(t, c, n), "x,")
	}
}

// P2103: a server that started as one of those that agree knows them still; another one does not.
func TestStartServers(t *testing.T) {
	o := usual(2, 0)
	o.All = 3
	c := made(t, o)
	for n, servers := range []string{"[0 1]", "[0 1]", "[]"} {
		c.Crash(n)
		wantErr(t, "Start", c.Start(n, nil, 0), api.OK)
		want(t, "Base", fmt.Sprint(c.Base(n)), servers)
	}
}

// P2103: it is opened with the draw.
func TestStartDraw(t *testing.T) {
	for _, draw := range []int{0, 5, 7, 11, -3, lowest, highest} {
		c := made(t, usual(2, 0))
		c.Crash(1)
		wantErr(t, "Start", c.Start(1, nil, draw), api.OK)
		limit := 8 + (draw%8+8)%8
		tick(t, c, 1, limit-1)
		want(t, "Waiting ahead of its limit", c.Waiting(), 0)
		tick(t, c, 1, 1)
		want(t, "Waiting at its limit", c.Waiting(), 1)
	}
}

// P2103: where the power goes is chosen by Cut, and how much is left by Start's choices: an entry that was not synced may be there, or not.
func TestCutChoices(t *testing.T) {
	lengths := map[int]bool{}
	for fuse := range 9 {
		for choice := range 200 {
			c := inSession(t, usual(1, 1))
			before, _ := c.Seen(0)
			wantErr(t, "Cut", c.Cut(0, fuse), api.OK)
			do(t, c, 0, put("hello"))
			wantErr(t, "Carry", c.Carry(0, true), api.OK)
			if c.Up(0) {
				if fuse == 0 {
					t.Fatal("it wrote without power")
				}
				wantErr(t, "Bring", c.Bring(0, true), api.OK)
				continue
			}
			notRunning(t, c, 0)
			wantErr(t, "Bring what was not told", c.Bring(0, true), api.ErrNone)
			wantErr(t, "Start", c.Start(0, []int{choice, choice, choice}, 0), api.OK)
			s, _ := c.Seen(0)
			if len(s.View.L) < len(before.View.L) {
				t.Fatal("it has not what it had synced")
			}
			lengths[len(s.View.L)-len(before.View.L)] = true
			// The power is there again, without a fuse.
			settle(t, c, 60)
			want(t, "records", recordsOf(t, c, 0), "hello,")
		}
	}
	if !lengths[0] || !lengths[1] || len(lengths) != 2 {
		t.Errorf("entries that were left: %v", lengths)
	}
}

// P2103: Cut is the disk's: of 0 the power goes with the next change; below 0 there is no fuse.
func TestCut(t *testing.T) {
	c := inSession(t, usual(1, 1))
	for _, fuse := range []int{0, -1, 5, lowest, highest} {
		wantErr(t, "Cut", c.Cut(0, fuse), api.OK)
		want(t, "Up", c.Up(0), true)
	}
	ended(t, c, 0, put("x"))
	wantErr(t, "Cut", c.Cut(0, 0), api.OK)
	tick(t, c, 0, 5) // changes nothing on the disk
	do(t, c, 0, put("y"))
	c.Carry(0, true)
	notRunning(t, c, 0)
}

// P2103, P7: where a disk is full the node halts, and counts as crashed; the others go on.
func TestFull(t *testing.T) {
	o := usual(3, 1)
	o.Quota = 4000
	c := inSession(t, o)
	for k := 0; c.Up(0) && c.Up(1) && c.Up(2); k++ {
		if k > 10 {
			t.Fatal("no disk is full")
		}
		do(t, c, 0, put(strings.Repeat("x", 1000)))
		settle(t, c, 100)
	}
	for n := range 3 {
		if c.Up(n) {
			continue
		}
		notRunning(t, c, n)
		wantErr(t, "Start", c.Start(n, nil, 0), api.OK)
		want(t, "Up", c.Up(n), true)
	}
}

// P2103: what was told stays in the net and in the rows when the node that told it crashes; whom it had not answered it never answers.
func TestToldLasts(t *testing.T) {
	c := inSession(t, usual(1, 1))
	do(t, c, 0, put("x"))
	wantErr(t, "Carry", c.Carry(0, true), api.OK)
	c.Crash(0)
	wantErr(t, "Bring", c.Bring(0, true), api.OK)
	want(t, "Busy", c.Busy(0), false)
	want(t, "Last", c.Last(0).E, api.OK)

	c = made(t, usual(2, 0))
	tick(t, c, 0, 8)
	c.Crash(0)
	want(t, "Waiting", c.Waiting(), 1)
	deliver(t, c, 1)
	want(t, "Waiting for what 1 says", c.Waiting(), 1)

	c = inSession(t, usual(2, 1))
	lead := leader(t, c, 2)
	c.Wall([]int{lead})
	do(t, c, 0, put("x"))
	for c.Carry(0, true) == api.OK {
		if c.Bring(0, true) == api.ErrNone {
			break // it waits at the leader now
		}
	}
	c.Crash(lead)
	wantErr(t, "Start", c.Start(lead, nil, 0), api.OK)
	tick(t, c, lead, 30)
	wantErr(t, "Bring", c.Bring(0, true), api.ErrNone)
	want(t, "Busy", c.Busy(0), true)
}
