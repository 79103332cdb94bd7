package cluster_test

import (
	"bytes"
	"fmt"
	"testing"

	"hustings/api"
	"hustings/client"
	"hustings/cluster"
	"hustings/node"
)

// busy: two nodes of three that run, letters on their way, a client whose call waits, and one whose answer does.
func busy(t *testing.T) *cluster.Cluster {
	t.Helper()
	c := inSession(t, usual(3, 3))
	wantErr(t, "Crash", c.Crash(2), api.OK)
	do(t, c, 0, put("x"))
	do(t, c, 1, get(0, 5))
	wantErr(t, "Carry", c.Carry(1, true), api.OK)
	for c.Bring(1, true) == api.OK {
		wantErr(t, "Carry", c.Carry(1, true), api.OK)
	}
	for k := 0; c.Bring(1, true) == api.ErrNone; k++ {
		if k > 20 {
			t.Fatal("no answer comes")
		}
		deliver(t, c, 1)
	}
	do(t, c, 1, client.Order{Kind: node.Drop, From: 9})
	wantErr(t, "Carry", c.Carry(1, true), api.OK)
	for c.Waiting() < 2 {
		tick(t, c, leader(t, c, 3), 1)
	}
	return c
}

// changes: calls that are done in such a cluster, and change something each.
var changes = map[string]func(c *cluster.Cluster) api.Errno{
	"Tick":              func(c *cluster.Cluster) api.Errno { return c.Tick(1, 0) },
	"Tick by a draw":    func(c *cluster.Cluster) api.Errno { return c.Tick(1, 1) },
	"Deliver":           func(c *cluster.Cluster) api.Errno { return c.Deliver(0, 0) },
	"Deliver by a draw": func(c *cluster.Cluster) api.Errno { return c.Deliver(0, 1) },
	"Lose":              func(c *cluster.Cluster) api.Errno { return c.Lose(0) },
	"Double":            func(c *cluster.Cluster) api.Errno { return c.Double(0) },
	"Wall around 0":     func(c *cluster.Cluster) api.Errno { return c.Wall([]int{0}) },
	"Wall around 1":     func(c *cluster.Cluster) api.Errno { return c.Wall([]int{1}) },
	"Wall around 9":     func(c *cluster.Cluster) api.Errno { return c.Wall([]int{9}) },
	"Crash of 0":        func(c *cluster.Cluster) api.Errno { return c.Crash(0) },
	"Crash of 1":        func(c *cluster.Cluster) api.Errno { return c.Crash(1) },
	"Start":             func(c *cluster.Cluster) api.Errno { return c.Start(2, nil, 0) },
	"Start by a draw":   func(c *cluster.Cluster) api.Errno { return c.Start(2, nil, 1) },
	"Cut":               func(c *cluster.Cluster) api.Errno { return c.Cut(1, 5) },
	"Cut later":         func(c *cluster.Cluster) api.Errno { return c.Cut(1, 6) },
	"Do a Put":          func(c *cluster.Cluster) api.Errno { return c.Do(2, put("x")) },
	"Do another Put":    func(c *cluster.Cluster) api.Errno { return c.Do(2, put("y")) },
	"Do a Get":          func(c *cluster.Cluster) api.Errno { return c.Do(2, get(0, 1)) },
	"Do another Get":    func(c *cluster.Cluster) api.Errno { return c.Do(2, get(0, 2)) },
	"Do another":        func(c *cluster.Cluster) api.Errno { return c.Do(2, client.Order{Kind: node.Add, From: 9}) },
	"Carry":             func(c *cluster.Cluster) api.Errno { return c.Carry(0, true) },
	"Carry, lost":       func(c *cluster.Cluster) api.Errno { return c.Carry(0, false) },
	"Bring":             func(c *cluster.Cluster) api.Errno { return c.Bring(1, true) },
	"Bring, lost":       func(c *cluster.Cluster) api.Errno { return c.Bring(1, false) },
	"Wait of 0":         func(c *cluster.Cluster) api.Errno { return c.Wait(0) },
	"Wait of 1":         func(c *cluster.Cluster) api.Errno { return c.Wait(1) },
	"Settle":            func(c *cluster.Cluster) api.Errno { return c.Settle(1) },
	"Settle longer":     func(c *cluster.Cluster) api.Errno { return c.Settle(2) },
}

// P2105: State tells all: what a call changed, how little it be, and which call it was, as far as it is of weight.
func TestStateChanges(t *testing.T) {
	told := map[string]string{string(busy(t).State()): "nothing"}
	for name, call := range changes {
		c := busy(t)
		wantErr(t, name, call(c), api.OK)
		s := string(c.State())
		if other, there := told[s]; there {
			t.Errorf("%s and %s make the same State", name, other)
		}
		told[s] = name
		c = busy(t)
		call(c)
		if string(c.State()) != s {
			t.Errorf("%s makes different States", name)
		}
	}
}

// P2105: it tells of what clusters were made, too.
func TestStateOptions(t *testing.T) {
	told := map[string]cluster.Options{}
	for _, o := range []cluster.Options{
		usual(1, 0), usual(1, 1), usual(2, 0),
		{Servers: 1, All: 2, Keep: 9, Span: 9, Quota: 9999},
		{Servers: 1, All: 2, Keep: 8, Span: 9, Quota: 9999},
		{Servers: 1, All: 2, Keep: 9, Span: 8, Quota: 9999},
		{Servers: 1, All: 2, Keep: 9, Span: 9, Quota: 9998},
	} {
		s := string(made(t, o).State())
		if other, there := told[s]; there {
			t.Errorf("%+v and %+v make the same State", o, other)
		}
		told[s] = o
	}
}

// P2105: looks change nothing, nor do calls that are refused.
func TestStateStays(t *testing.T) {
	c := busy(t)
	before := c.State()
	looks(c, usual(3, 3))
	for name, e := range map[string]api.Errno{
		"Tick":    c.Tick(2, 0),
		"Deliver": c.Deliver(c.Waiting(), 0),
		"Lose":    c.Lose(-1),
		"Double":  c.Double(c.Waiting()),
		"Wall":    c.Wall([]int{0, 16}),
		"Crash":   c.Crash(2),
		"Start":   c.Start(1, []int{1}, 1),
		"Cut":     c.Cut(2, 0),
		"Do":      c.Do(0, put("y")),
		"Do Trim": c.Do(2, client.Order{Kind: node.Trim}),
		"Carry":   c.Carry(2, true),
		"Bring":   c.Bring(2, true),
		"Settle":  c.Settle(-1),
	} {
		if e == api.OK {
			t.Errorf("%s was done", name)
		}
	}
	if !bytes.Equal(c.State(), before) {
		t.Error("what was refused, or a look, changed something")
	}
}

// P2105: where something is as it was, so is State.
func TestStateBack(t *testing.T) {
	c := busy(t)
	before := c.State()
	for name, calls := range map[string][]api.Errno{
		"Wall":         {c.Wall([]int{0}), c.Wall(nil)},
		"Double":       {c.Double(0), c.Lose(c.Waiting() - 1)},
		"Wait":         {c.Wait(2), c.Wait(2)},
		"Settle":       {c.Settle(0)},
		"Wall of none": {c.Wall([]int{})},
	} {
		for _, e := range calls {
			wantErr(t, name, e, api.OK)
		}
		if !bytes.Equal(c.State(), before) {
			t.Errorf("%s changed something", name)
		}
	}
}

// P2105: what no look tells matters later, and State tells it now: how far timers are, how far a fuse, how long a client waited.
func TestStateHidden(t *testing.T) {
	for name, call := range map[string]func(c *cluster.Cluster) api.Errno{
		"a timer":    func(c *cluster.Cluster) api.Errno { return c.Tick(1, 0) },
		"a fuse":     func(c *cluster.Cluster) api.Errno { return c.Cut(0, 100) },
		"a patience": func(c *cluster.Cluster) api.Errno { return c.Wait(0) },
	} {
		o := usual(3, 1)
		c := led(t, o)
		do(t, c, 0, get(0, 1))
		before, state := looks(c, o), c.State()
		wantErr(t, name, call(c), api.OK)
		want(t, name+": looks", looks(c, o), before)
		if bytes.Equal(c.State(), state) {
			t.Errorf("%s is not told", name)
		}
	}
}

// DOC.md's rules: what comes of calls hangs on them alone.
func TestStateTwins(t *testing.T) {
	for n := range 5 {
		o := usual(3, 2)
		a, b := inSession(t, o), inSession(t, o)
		for k := range 10 {
			for _, c := range []*cluster.Cluster{a, b} {
				c.Do(k%2, put(fmt.Sprint(k)))
				c.Crash((k + n) % 3)
				c.Settle(3)
				c.Start((k+n)%3, []int{k, n}, k)
			}
			if !bytes.Equal(a.State(), b.State()) {
				t.Fatal("the same calls make different States")
			}
		}
	}
}
