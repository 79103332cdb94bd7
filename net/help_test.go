package net_test

import (
	"fmt"
	"strings"
	"testing"

	"hustings/api"
	"hustings/net"
)

const (
	highest = 1<<63 - 1
	lowest  = -1 << 63
)

func made(t *testing.T, most int) *net.Net {
	t.Helper()
	n, e := net.New(most)
	if e != api.OK || n == nil {
		t.Fatalf("New(%d): %v, error %d", most, n, e)
	}
	return n
}

func letter(from, to int, text string) net.Letter {
	return net.Letter{From: from, To: to, B: []byte(text)}
}

// filled: a Net of those letters.
func filled(t *testing.T, most int, l ...net.Letter) *net.Net {
	t.Helper()
	n := made(t, most)
	send(t, n, l...)
	return n
}

func send(t *testing.T, n *net.Net, l ...net.Letter) {
	t.Helper()
	for _, x := range l {
		wantErr(t, "Send "+one(x), n.Send(x), api.OK)
	}
}

func wall(t *testing.T, n *net.Net, ids ...int) {
	t.Helper()
	wantErr(t, fmt.Sprint("Wall ", ids), n.Wall(ids), api.OK)
}

func take(t *testing.T, n *net.Net, k int, want net.Letter) {
	t.Helper()
	l, e := n.Take(k)
	wantErr(t, fmt.Sprintf("Take(%d)", k), e, api.OK)
	if one(l) != one(want) {
		t.Fatalf("Take(%d): %s, not %s", k, one(l), one(want))
	}
}

func wantErr(t *testing.T, what string, e, want api.Errno) {
	t.Helper()
	if e != want {
		t.Fatalf("%s: error %d, not %d", what, e, want)
	}
}

// wantNone: an error, and no letter beside it.
func wantNone(t *testing.T, what string, l net.Letter, e, want api.Errno) {
	t.Helper()
	wantErr(t, what, e, want)
	if l.From != 0 || l.To != 0 || len(l.B) != 0 {
		t.Fatalf("%s: %s beside an error", what, one(l))
	}
}

func one(l net.Letter) string {
	if len(l.B) > 20 {
		return fmt.Sprintf("%d>%d %d bytes", l.From, l.To, len(l.B))
	}
	return fmt.Sprintf("%d>%d %q", l.From, l.To, l.B)
}

func row(l []net.Letter) string {
	var s []string
	for _, x := range l {
		s = append(s, one(x))
	}
	return strings.Join(s, " ")
}

// all: the letters of a Net, by its looks.
func all(t *testing.T, n *net.Net) []net.Letter {
	t.Helper()
	var l []net.Letter
	for k := range n.Len() {
		x, e := n.Look(k)
		wantErr(t, fmt.Sprintf("Look(%d)", k), e, api.OK)
		l = append(l, x)
	}
	return l
}

func wantLetters(t *testing.T, n *net.Net, want ...net.Letter) {
	t.Helper()
	if l := all(t, n); row(l) != row(want) {
		t.Fatalf("letters %s, not %s", row(l), row(want))
	}
}
