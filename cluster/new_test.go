package cluster_test

import (
	"fmt"
	"slices"
	"testing"

	"hustings/api"
	"hustings/client"
	"hustings/cluster"
	"hustings/node"
)

// nobodys: Clusters that New did not make.
func nobodys() []*cluster.Cluster {
	return []*cluster.Cluster{nil, {}}
}

// The chapter's example.
func TestExample(t *testing.T) {
	c := made(t, usual(1, 1))
	settle(t, c, 20)
	do(t, c, 0, client.Order{Kind: node.OpenSession})
	settle(t, c, 20)
	want(t, "Session", c.Session(0), 2)
}

// P2101: of a nil Cluster, and one that New did not make.
func TestNobodys(t *testing.T) {
	for _, c := range nobodys() {
		for what, e := range map[string]api.Errno{
			"Tick":        c.Tick(0, 0),
			"Deliver":     c.Deliver(0, 0),
			"Lose":        c.Lose(0),
			"Double":      c.Double(0),
			"Wall":        c.Wall(nil),
			"Crash":       c.Crash(0),
			"Start":       c.Start(0, nil, 0),
			"Cut":         c.Cut(0, 0),
			"Do":          c.Do(0, client.Order{Kind: node.OpenSession}),
			"Do no order": c.Do(0, client.Order{}),
			"Carry":       c.Carry(0, true),
			"Bring":       c.Bring(0, true),
			"Wait":        c.Wait(0),
			"Settle":      c.Settle(1),
			"Settle none": c.Settle(0),
		} {
			wantErr(t, what, e, api.ErrArg)
		}
		for n := range 2 {
			nothingOf(t, c, n)
		}
		want(t, "Waiting", c.Waiting(), 0)
		if len(c.History()) != 0 || len(c.State()) != 0 {
			t.Error("there is a history, or a state")
		}
	}
}

// nothingOf: what looks tell where there is no node or client n.
func nothingOf(t *testing.T, c *cluster.Cluster, n int) {
	t.Helper()
	want(t, "Up", c.Up(n), false)
	want(t, "looks", nodeLooks(c, n), "false 0 0 0 false 0 0 [] [] false []")
	want(t, "Busy", c.Busy(n), false)
	want(t, "Session", c.Session(n), 0)
	want(t, "Last", answered(c.Last(n)), "0: 0 0 0 [] leader 0")
}

// P2101: where there is no such node or client.
func TestNoPlaces(t *testing.T) {
	o := usual(3, 2)
	c := inSession(t, o)
	c.Crash(1)
	before := c.State()
	for _, n := range noPlaces(3) {
		wantErr(t, "Tick", c.Tick(n, 0), api.ErrArg)
		wantErr(t, "Crash", c.Crash(n), api.ErrArg)
		wantErr(t, "Start", c.Start(n, nil, 0), api.ErrArg)
		wantErr(t, "Cut", c.Cut(n, 0), api.ErrArg)
	}
	for _, w := range noPlaces(2) {
		wantErr(t, "Do", c.Do(w, put("x")), api.ErrArg)
		wantErr(t, "Carry", c.Carry(w, true), api.ErrArg)
		wantErr(t, "Bring", c.Bring(w, false), api.ErrArg)
		wantErr(t, "Wait", c.Wait(w), api.ErrArg)
	}
	for _, n := range noPlaces(3) {
		nothingOf(t, c, n)
	}
	if !slices.Equal(c.State(), before) {
		t.Error("a call that was refused changed something")
	}
}

// P2102: each option, at both ends and past them.
func TestOptions(t *testing.T) {
	good := cluster.Options{Servers: 2, All: 4, Clients: 2, Keep: 9, Span: 99, Quota: 9999}
	for _, x := range []struct {
		name        string
		of          func(o *cluster.Options) *int
		least, most int
	}{
		{"Servers", func(o *cluster.Options) *int { return &o.Servers }, 1, 4},
		{"All", func(o *cluster.Options) *int { return &o.All }, 2, api.MaxServers},
		{"Clients", func(o *cluster.Options) *int { return &o.Clients }, 0, 8},
		{"Keep", func(o *cluster.Options) *int { return &o.Keep }, 1, 1000},
		{"Span", func(o *cluster.Options) *int { return &o.Span }, 1, 1 << 40},
		{"Quota", func(o *cluster.Options) *int { return &o.Quota }, 1000, api.MaxBytes},
	} {
		for _, n := range []int{x.least, x.most, x.least - 1, x.most + 1, -x.most, lowest, highest} {
			o, right := good, n >= x.least && n <= x.most
			*x.of(&o) = n
			c, e := cluster.New(o)
			if right != (e == api.OK) || right != (c != nil) || !right && e != api.ErrArg {
				t.Errorf("New with %s %d: %v, error %d", x.name, n, c != nil, e)
			}
		}
	}
	for _, o := range []cluster.Options{{}, {Servers: 8, All: 8, Keep: 1, Span: 1, Quota: 1000}, {Servers: 3, All: 2, Keep: 1, Span: 1, Quota: 1000}} {
		if c, e := cluster.New(o); c != nil || e != api.ErrArg {
			t.Errorf("New(%+v): error %d", o, e)
		}
	}
}

// P2102: all nodes are open, those that agree at first, and the others, which are none; nothing else is there.
func TestOpened(t *testing.T) {
	for all := 1; all <= api.MaxServers; all++ {
		for servers := 1; servers <= all; servers++ {
			for clients := range 9 {
				o := cluster.Options{Servers: servers, All: all, Clients: clients, Keep: 1, Span: 1, Quota: 1000}
				c := made(t, o)
				for n := range all {
					list := "[]"
					if n < servers {
						list = fmt.Sprint([]int{0, 1, 2, 3, 4, 5, 6}[:servers])
					}
					want(t, "Up", c.Up(n), true)
					want(t, "looks", nodeLooks(c, n), fmt.Sprintf("true %d 0 0 false 0 0 [] %s true []", n, list))
				}
				for w := range clients {
					want(t, "Busy", c.Busy(w), false)
					want(t, "Session", c.Session(w), 0)
					want(t, "Last", answered(c.Last(w)), "0: 0 0 0 [] leader 0")
				}
				wantErr(t, "Wait behind the last one", c.Wait(clients), api.ErrArg)
				want(t, "Waiting", c.Waiting(), 0)
				want(t, "History", len(c.History()), 0)
			}
		}
	}
}

// P2102: each node was opened with its number as draw, and the least limit is 8: it asks the others at 8 ticks and its number.
func TestOpenedDraws(t *testing.T) {
	for n := range 7 {
		c := made(t, usual(7, 0))
		tick(t, c, n, 8+n-1)
		want(t, "Waiting ahead of the limit", c.Waiting(), 0)
		tick(t, c, n, 1)
		want(t, "Waiting", c.Waiting(), 6)
	}
}

// P2102: nodes that are no servers don't ask anybody.
func TestOthers(t *testing.T) {
	o := usual(2, 0)
	o.All = 4
	c := made(t, o)
	tick(t, c, 2, 100)
	tick(t, c, 3, 100)
	want(t, "Waiting", c.Waiting(), 0)
	tick(t, c, 0, 8)
	want(t, "Waiting", c.Waiting(), 1)
}

// P2102: the nodes' options: a leader's rounds are two ticks apart, a snapshot stands for so many entries as Keep says, sessions last as Span says, disks have so many bytes as Quota says.
func TestNodesOptions(t *testing.T) {
	c := led(t, usual(3, 0))
	lead := leader(t, c, 3)
	for c.Waiting() > 0 {
		wantErr(t, "Lose", c.Lose(0), api.OK)
	}
	for range 5 {
		tick(t, c, lead, 1)
		one := c.Waiting()
		tick(t, c, lead, 1)
		want(t, "letters of two ticks", c.Waiting(), 2)
		for c.Waiting() > 0 {
			wantErr(t, "Lose", c.Lose(0), api.OK)
		}
		if one != 0 && one != 2 {
			t.Fatalf("%d letters of one tick", one)
		}
	}
	for _, keep := range []int{1, 2, 5} {
		o := usual(1, 1)
		o.Keep = keep
		c := inSession(t, o)
		for i := range 12 {
			ended(t, c, 0, put("x"))
			s, _ := c.Seen(0)
			applied := i + 3
			want(t, fmt.Sprint("Base, where Keep is ", keep, " and applied are ", applied), s.View.Base, applied/keep*keep)
		}
	}
}

// P2102: a session goes where it was used a span ago.
func TestSpan(t *testing.T) {
	for _, span := range []int{1, 3, 5} {
		o := usual(1, 2)
		o.Span = span
		c := led(t, o)
		ended(t, c, 0, client.Order{Kind: node.OpenSession}) // at 2
		ended(t, c, 1, client.Order{Kind: node.OpenSession}) // at 3
		wants := api.OK
		if 4-2 >= span {
			wants = api.ErrSession
		}
		refused(t, c, 0, put("x"), wants) // at 4
		wants = api.OK
		if 5-3 >= span {
			wants = api.ErrSession
		}
		refused(t, c, 1, put("y"), wants) // at 5
	}
}
