package reads_test

import (
	"slices"
	"testing"

	"hustings/api"
	"hustings/reads"
)

const (
	highest = 1<<63 - 1
	lowest  = -1 << 63
	room    = 100 // of reads that wait
)

func made(t *testing.T, me int) *reads.Book {
	t.Helper()
	b, e := reads.New(me)
	if e != api.OK || b == nil {
		t.Fatalf("New(%d): %v, error %d", me, b, e)
	}
	return b
}

func ask(t *testing.T, b *reads.Book, id, index, round int) {
	t.Helper()
	if e := b.Ask(id, index, round); e != api.OK {
		t.Fatalf("Ask(%d, %d, %d): error %d", id, index, round, e)
	}
}

func hear(t *testing.T, b *reads.Book, from, round int) {
	t.Helper()
	if e := b.Heard(from, round); e != api.OK {
		t.Fatalf("Heard(%d, %d): error %d", from, round, e)
	}
}

func wantReady(t *testing.T, b *reads.Book, servers []int, want ...reads.Ready) {
	t.Helper()
	if got := b.Ready(servers); !slices.Equal(got, want) {
		t.Fatalf("Ready(%v) is %v, not %v", servers, got, want)
	}
}

func wantWaiting(t *testing.T, b *reads.Book, want ...int) {
	t.Helper()
	if got := b.Waiting(); !slices.Equal(got, want) {
		t.Fatalf("Waiting is %v, not %v", got, want)
	}
}

// model: a Book by the chapter's words: reads in a list, and all that was heard, as it came.
type model struct {
	me    int
	reads []asked
	heard []word
}

type asked struct{ id, index, round int }

type word struct{ from, round int }

func (m *model) there(server, round int) bool {
	return server == m.me || slices.ContainsFunc(m.heard, func(w word) bool { return w.from == server && w.round >= round })
}

// most: are more than half of the servers there, each counted once?
func (m *model) most(servers []int, round int) bool {
	var seen []int
	yes := 0
	for _, s := range servers {
		if slices.Contains(seen, s) {
			continue
		}
		seen = append(seen, s)
		if m.there(s, round) {
			yes++
		}
	}
	return yes > len(seen)-yes
}

func (m *model) ask(id, index, round int) api.Errno {
	if index < 0 || round < 0 {
		return api.ErrArg
	}
	if slices.Contains(m.waiting(), id) {
		return api.ErrThere
	}
	if len(m.reads) == room {
		return api.ErrFull
	}
	m.reads = append(m.reads, asked{id, index, round})
	return api.OK
}

func (m *model) hear(from, round int) api.Errno {
	if from < 0 || from > 15 || round < 0 {
		return api.ErrArg
	}
	m.heard = append(m.heard, word{from, round})
	return api.OK
}

func (m *model) ready(servers []int) []reads.Ready {
	var l []reads.Ready
	var rest []asked
	for _, r := range m.reads {
		if m.most(servers, r.round) {
			l = append(l, reads.Ready{ID: r.id, Index: r.index})
		} else {
			rest = append(rest, r)
		}
	}
	m.reads = rest
	return l
}

func (m *model) waiting() []int {
	var ids []int
	for _, r := range m.reads {
		ids = append(ids, r.id)
	}
	return ids
}

func (m *model) clear() []int {
	ids := m.waiting()
	m.reads, m.heard = nil, nil
	return ids
}
