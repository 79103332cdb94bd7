package message_test

import (
	"bytes"
	"math"
	"slices"
	"testing"

	"hustings/api"
	"hustings/message"
)

// roomy: the same message in memory of its own, each list with room behind it.
func roomy(m message.Message) message.Message {
	l := make([]api.Entry, 0, len(m.Entries)+2)
	for _, x := range m.Entries {
		x.Data = append(make([]byte, 0, len(x.Data)+4), x.Data...)
		l = append(l, x)
	}
	m.Entries = l
	m.Servers = append(make([]int, 0, len(m.Servers)+2), m.Servers...)
	m.Data = append(make([]byte, 0, len(m.Data)+4), m.Data...)
	return m
}

// spoil: writes into each list of a message and into the room behind it.
func spoil(m message.Message) {
	for _, x := range m.Entries {
		spoilBytes(x.Data)
	}
	for i := range m.Entries[:cap(m.Entries)] {
		m.Entries[:cap(m.Entries)][i] = api.Entry{Term: 77, Index: 77, Kind: 77, Data: []byte("77")}
	}
	for i := range m.Servers[:cap(m.Servers)] {
		m.Servers[:cap(m.Servers)][i] += 77
	}
	spoilBytes(m.Data)
}

func spoilBytes(b []byte) {
	for i := range b[:cap(b)] {
		b[:cap(b)][i] ^= 0xa5
	}
}

// wantClean: nothing was written into the message or into the room behind its lists.
func wantClean(t *testing.T, what string, m, before message.Message) {
	t.Helper()
	clean := same(m, before)
	for _, x := range m.Entries {
		clean = clean && !slices.ContainsFunc(x.Data[len(x.Data):cap(x.Data)], func(b byte) bool { return b != 0 })
	}
	for _, x := range m.Entries[len(m.Entries):cap(m.Entries)] {
		clean = clean && x.Kind == 0 && x.Data == nil
	}
	for _, n := range m.Servers[len(m.Servers):cap(m.Servers)] {
		clean = clean && n == 0
	}
	clean = clean && !slices.ContainsFunc(m.Data[len(m.Data):cap(m.Data)], func(b byte) bool { return b != 0 })
	if !clean {
		t.Errorf("%s: what was handed in, or the room behind it, was changed", what)
	}
}

// P401: Put changes nothing, and its bytes are new.
func TestPutIsNew(t *testing.T) {
	for _, m := range ofEachKind() {
		in := roomy(m)
		one, _ := message.Put(in)
		two, _ := message.Put(in)
		spoilBytes(one)
		wantClean(t, "Put", in, m)
		spoil(in)
		if !bytes.Equal(two, model(m)) {
			t.Error("Put hangs on another answer, or on what was handed in")
		}
	}
}

// P401: Get changes nothing, and what it makes is new.
func TestGetIsNew(t *testing.T) {
	for _, m := range ofEachKind() {
		in := append(model(m), "room"...)
		b := in[:len(in)-4]
		one, _ := message.Get(b)
		two, _ := message.Get(b)
		spoil(one)
		if !bytes.Equal(b, model(m)) || string(in[len(b):]) != "room" {
			t.Error("Get changed what was handed in, or the room behind it")
		}
		spoilBytes(in)
		if !same(two, m) {
			t.Error("Get hangs on another answer, or on its bytes")
		}
		wantApart(t, "Get", two)
	}
}

// P402: Copy is the same in memory of its own.
func TestCopyIsNew(t *testing.T) {
	for _, m := range ofEachKind() {
		in := roomy(m)
		one, two := message.Copy(in), message.Copy(in)
		if !same(one, m) {
			t.Error(one, m)
		}
		spoil(one)
		wantClean(t, "Copy", in, m)
		spoil(in)
		if !same(two, m) {
			t.Error("Copy hangs on another answer, or on what was handed in")
		}
		wantApart(t, "Copy", two)
	}
}

// wantApart: no two lists of one message share anything: each is added to, and all the others stay.
func wantApart(t *testing.T, what string, m message.Message) {
	t.Helper()
	for i := range m.Entries {
		before := roomy(m)
		spoilBytes(m.Entries[i].Data)
		before.Entries[i].Data = m.Entries[i].Data
		if !same(m, before) {
			t.Errorf("%s: two lists of one answer share memory", what)
		}
	}
}

// P402: lists that share memory with each other lie apart in a copy.
func TestCopyParts(t *testing.T) {
	data := []byte("shared")
	m := message.Message{Kind: message.Append, Term: 1, Data: data, Entries: []api.Entry{
		{Term: 1, Index: 1, Kind: api.Command, Data: data},
		{Term: 1, Index: 2, Kind: api.Command, Data: data[:3]},
		{Term: 1, Index: 3, Kind: api.Command, Data: data[:0]},
	}}
	c := message.Copy(m)
	wantApart(t, "Copy", c)
	if string(data) != "shared" || string(c.Data) != "shared" {
		t.Error(string(data), string(c.Data))
	}
}

// P402: Copy refuses nothing: what may not be is the same, too.
func TestCopyOfAny(t *testing.T) {
	for _, m := range []message.Message{
		{},
		{Kind: -1, From: math.MinInt, To: math.MaxInt, Term: -5, A: -1, B: -2, C: -3, D: -4, Yes: true},
		{Kind: message.Vote, Entries: make([]api.Entry, 20), Servers: []int{9, 3, 3, -1}, Data: make([]byte, 70000)},
		{Kind: message.Snap, Entries: []api.Entry{{Kind: 9, Data: []byte("x")}}, Servers: []int{}, Data: []byte{}},
	} {
		if c := message.Copy(m); !same(c, m) {
			t.Error(c, m)
		}
		in := roomy(m)
		c := message.Copy(in)
		spoil(in)
		if !same(c, m) {
			t.Error("Copy hangs on what was handed in")
		}
	}
}

// P401: pure: a call hangs on no call ahead of it, though that one gave up.
func TestPure(t *testing.T) {
	for _, m := range ofEachKind() {
		message.Put(message.Message{Kind: message.Append, Term: 1, Entries: make([]api.Entry, 3)})
		message.Get([]byte{1, 5, 9})
		wantRight(t, "behind calls that failed", m)
		wantRight(t, "again", m)
	}
}
