package message_test

import (
	"bytes"
	"math"
	"math/rand"
	"slices"
	"testing"

	"hustings/api"
	"hustings/message"
)

// model: the bytes of a message, worked out without the program's own packages; nothing is refused.
func model(m message.Message) []byte {
	var b []byte
	yes := 0
	if m.Yes {
		yes = 1
	}
	for _, n := range []int{m.Kind, m.From, m.To, m.Term, m.A, m.B, m.C, m.D, yes} {
		b = append(b, number(n)...)
	}
	if m.Kind == message.Append {
		b = append(b, number(len(m.Entries))...)
		for _, x := range m.Entries {
			b = append(b, counted(entry(x))...)
		}
	}
	if m.Kind == message.Snap {
		b = append(b, counted(servers(m.Servers))...)
		b = append(b, counted(m.Data)...)
	}
	return b
}

func number(n int) []byte {
	b := []byte{0}
	for ; n != 0; n /= 256 {
		b[0]++
		b = append(b, byte(n%256))
	}
	return b
}

func counted(b []byte) []byte { return append(number(len(b)), b...) }

func entry(x api.Entry) []byte {
	return slices.Concat(number(x.Term), number(x.Index), number(x.Kind), counted(x.Data))
}

func servers(l []int) []byte {
	b := number(len(l))
	for _, n := range l {
		b = append(b, number(n)...)
	}
	return b
}

// same: whether two messages are the same; a list that is nil is as good as an empty one.
func same(a, b message.Message) bool {
	numbers := func(m message.Message) [8]int {
		return [8]int{m.Kind, m.From, m.To, m.Term, m.A, m.B, m.C, m.D}
	}
	return numbers(a) == numbers(b) && a.Yes == b.Yes && slices.Equal(a.Servers, b.Servers) && bytes.Equal(a.Data, b.Data) &&
		slices.EqualFunc(a.Entries, b.Entries, func(x, y api.Entry) bool {
			return x.Term == y.Term && x.Index == y.Index && x.Kind == y.Kind && bytes.Equal(x.Data, y.Data)
		})
}

// wantRight: it is put as the model says, and got again.
func wantRight(t *testing.T, what string, m message.Message) {
	t.Helper()
	b, e := message.Put(m)
	if e != api.OK || !bytes.Equal(b, model(m)) {
		t.Errorf("%s: Put %v, error %d; want %v", what, b, e, model(m))
	}
	got, e := message.Get(model(m))
	if e != api.OK || !same(got, m) {
		t.Errorf("%s: Get %v, error %d; want %v", what, got, e, m)
	}
}

// wantNoPut: it may not be, and nothing is answered beside the error.
func wantNoPut(t *testing.T, what string, m message.Message) {
	t.Helper()
	if b, e := message.Put(m); e != api.ErrArg || len(b) != 0 {
		t.Errorf("%s: Put %v, error %d", what, b, e)
	}
}

func wantNoGet(t *testing.T, what string, b []byte) {
	t.Helper()
	m, e := message.Get(b)
	if e != api.ErrForm || !same(m, message.Message{}) {
		t.Errorf("%s: Get %v, error %d", what, m, e)
	}
}

// wantWrong: it may not be, and neither may its bytes.
func wantWrong(t *testing.T, what string, m message.Message) {
	t.Helper()
	wantNoPut(t, what, m)
	wantNoGet(t, what, model(m))
}

// batch: n entries that may be.
func batch(n int) []api.Entry {
	var l []api.Entry
	for i := range n {
		x := api.Entry{Term: 3 + i, Index: 250 + i, Kind: api.Command, Data: []byte("command")[:i%8]}
		if i%3 == 1 {
			x = api.Entry{Term: 3 + i, Index: 250 + i, Kind: api.Nothing}
		}
		if i%3 == 2 {
			x = api.Entry{Term: 3 + i, Index: 250 + i, Kind: api.Servers, Data: servers([]int{0, i})}
		}
		l = append(l, x)
	}
	return l
}

// ofEachKind: one message that may be of each kind, full of what it may have.
func ofEachKind() []message.Message {
	return []message.Message{
		{Kind: message.Ask, From: 1, To: 2, Term: 3, A: 300, B: 5, C: 6, D: 7},
		{Kind: message.Vote, From: 2, To: 1, Term: 3, Yes: true},
		{Kind: message.Append, From: 0, To: 15, Term: 258, A: 249, B: 2, C: 65536, D: 9, Entries: batch(3)},
		{Kind: message.Got, From: 15, To: 0, Term: 1, A: 1 << 24, D: 9, Yes: true},
		{Kind: message.Snap, From: 4, To: 5, Term: 6, A: 7, B: 3, C: 2, D: 1, Yes: true, Servers: []int{0, 4, 5, 15}, Data: []byte("snapshot")},
		{Kind: message.Have, From: 5, To: 4, Term: 6, A: 8, D: 1},
	}
}

func fields(m *message.Message) map[string]*int {
	return map[string]*int{"Kind": &m.Kind, "From": &m.From, "To": &m.To, "Term": &m.Term, "A": &m.A, "B": &m.B, "C": &m.C, "D": &m.D}
}

// P402: the document's example.
func TestExample(t *testing.T) {
	b, e := message.Put(message.Message{Kind: message.Vote, From: 1, To: 2, Term: 3, Yes: true})
	if e != api.OK || !bytes.Equal(b, []byte{1, 2, 1, 1, 1, 2, 1, 3, 0, 0, 0, 0, 1, 1}) {
		t.Error(b, e)
	}
	if message.Ask != 1 || message.Vote != 2 || message.Append != 3 || message.Got != 4 || message.Snap != 5 || message.Have != 6 {
		t.Error("a kind has another number")
	}
}

// P402: all bytes, written out by hand, of the two kinds that have more than numbers.
func TestWholeBytes(t *testing.T) {
	m := message.Message{Kind: message.Append, From: 0, To: 1, Term: 300, A: 5, B: 4, C: 3, D: 2, Entries: []api.Entry{
		{Term: 1, Index: 6, Kind: api.Command, Data: []byte("x")}, {Term: 1, Index: 7, Kind: api.Nothing}}}
	want := []byte{1, 3, 0, 1, 1, 2, 44, 1, 1, 5, 1, 4, 1, 3, 1, 2, 0, 1, 2, 1, 9, 1, 1, 1, 6, 1, 2, 1, 1, 'x', 1, 7, 1, 1, 1, 7, 1, 1, 0}
	if b, e := message.Put(m); e != api.OK || !bytes.Equal(b, want) {
		t.Error(b, e)
	}
	m = message.Message{Kind: message.Snap, From: 3, To: 4, Term: 1, Servers: []int{0, 3}, Data: []byte("hi"), Yes: true}
	want = []byte{1, 5, 1, 3, 1, 4, 1, 1, 0, 0, 0, 0, 1, 1, 1, 5, 1, 2, 0, 1, 3, 1, 2, 'h', 'i'}
	if b, e := message.Put(m); e != api.OK || !bytes.Equal(b, want) {
		t.Error(b, e)
	}
}

// P402, P403: each kind, with and without Yes, with as little as it may have and with nil and empty lists.
func TestEachKind(t *testing.T) {
	for _, m := range ofEachKind() {
		wantRight(t, "full", m)
		m.Yes = !m.Yes
		wantRight(t, "Yes turned", m)
		least := message.Message{Kind: m.Kind, Term: 1, Entries: []api.Entry{}, Servers: []int{}, Data: []byte{}}
		if m.Kind == message.Snap {
			least.Servers = []int{0}
		}
		wantRight(t, "least", least)
		least.Entries, least.Data = nil, nil
		if m.Kind != message.Snap {
			least.Servers = nil
		}
		wantRight(t, "least, nil", least)
	}
}

// P402: each number at its edges, in each kind.
func TestNumbers(t *testing.T) {
	for name, span := range map[string][2]int{
		"From": {0, api.MaxID - 1}, "To": {0, api.MaxID - 1}, "Term": {1, api.MaxTerm - 1},
		"A": {0, 1 << 40}, "B": {0, 1 << 40}, "C": {0, 1 << 40}, "D": {0, 1 << 40},
	} {
		for _, m := range ofEachKind() {
			p := fields(&m)[name]
			for _, *p = range []int{span[0], span[0] + 1, span[1] - 1, span[1]} {
				wantRight(t, name, m)
			}
			for _, *p = range []int{span[1] + 1, span[1] + 2, 1<<48 - 1} {
				wantWrong(t, name, m)
			}
			for _, *p = range []int{-1, math.MinInt, 1 << 48, math.MaxInt} {
				wantNoPut(t, name, m)
			}
			if span[0] > 0 {
				*p = 0
				wantWrong(t, name, m)
			}
		}
	}
}

// P402: a kind that is none, with all that other kinds have and with nothing.
func TestNoKind(t *testing.T) {
	wantWrong(t, "a zero message", message.Message{})
	for _, kind := range []int{0, 7, 8, 255, 256, 257, 1<<40 + 1, 1<<48 - 1} {
		wantWrong(t, "numbers alone", message.Message{Kind: kind, Term: 1})
		for _, m := range ofEachKind() {
			b := model(m)
			m.Kind = kind
			wantNoPut(t, "kind", m)
			wantNoGet(t, "kind", append(number(kind), b[2:]...))
		}
	}
	for _, kind := range []int{-1, -3, math.MinInt, math.MaxInt} {
		wantNoPut(t, "kind", message.Message{Kind: kind, Term: 1})
	}
}

// P402: Entries of Append alone, Servers and Data of Snap alone.
func TestListsOfOtherKinds(t *testing.T) {
	for _, m := range ofEachKind() {
		if m.Kind != message.Append {
			n := m
			n.Entries = batch(1)
			wantNoPut(t, "Entries", n)
		}
		if m.Kind != message.Snap {
			n := m
			n.Servers = []int{0}
			wantNoPut(t, "Servers", n)
			n = m
			n.Data = []byte{0}
			wantNoPut(t, "Data", n)
		}
		for kind := 1; kind <= 6; kind++ {
			if kind != m.Kind && (m.Kind == message.Append || m.Kind == message.Snap) {
				b := model(m)
				b[1] = byte(kind)
				wantNoGet(t, "the lists of another kind", b)
			}
		}
	}
}

// P402: as many entries as may be, and one more.
func TestBatches(t *testing.T) {
	m := message.Message{Kind: message.Append, Term: 9}
	for n := range api.MaxBatch + 1 {
		m.Entries = batch(n)
		wantRight(t, "entries", m)
	}
	for _, n := range []int{api.MaxBatch + 1, api.MaxBatch + 2, 256, 300} {
		m.Entries = batch(n)
		for i := range m.Entries {
			m.Entries[i] = api.Entry{Term: 1, Index: i + 1, Kind: api.Nothing}
		}
		wantWrong(t, "too many entries", m)
	}
}

// P402: entries that may be, each at its edges, though they don't go on by one.
func TestEntries(t *testing.T) {
	m := message.Message{Kind: message.Append, Term: 1, Entries: []api.Entry{
		{Term: api.MaxTerm - 1, Index: 1<<40 - 1, Kind: api.Nothing},
		{Term: 1, Index: 1, Kind: api.Command},
		{Term: 1, Index: 1, Kind: api.Command, Data: make([]byte, 4096)},
		{Term: 2, Index: 9, Kind: api.Servers, Data: servers([]int{0, 1, 2, 3, 4, 5, 15})},
	}}
	wantRight(t, "entries at their edges", m)
}

// P402: an entry that may not be, at each place of a batch.
func TestWrongEntries(t *testing.T) {
	for what, x := range map[string]api.Entry{
		"zero":              {},
		"term 0":            {Term: 0, Index: 1, Kind: api.Nothing},
		"term too high":     {Term: api.MaxTerm, Index: 1, Kind: api.Nothing},
		"index 0":           {Term: 1, Index: 0, Kind: api.Nothing},
		"index too high":    {Term: 1, Index: 1 << 40, Kind: api.Nothing},
		"kind 0":            {Term: 1, Index: 1, Kind: 0},
		"kind 4":            {Term: 1, Index: 1, Kind: 4},
		"Nothing with data": {Term: 1, Index: 1, Kind: api.Nothing, Data: []byte{1}},
		"too much data":     {Term: 1, Index: 1, Kind: api.Command, Data: make([]byte, 4097)},
		"no servers":        {Term: 1, Index: 1, Kind: api.Servers},
		"servers falling":   {Term: 1, Index: 1, Kind: api.Servers, Data: servers([]int{2, 1})},
	} {
		for place := range api.MaxBatch {
			m := message.Message{Kind: message.Append, Term: 1, Entries: batch(api.MaxBatch)}
			m.Entries[place] = x
			wantWrong(t, what, m)
		}
	}
	for _, x := range []api.Entry{{Term: -1, Index: 1, Kind: api.Nothing}, {Term: 1, Index: math.MinInt, Kind: api.Nothing}, {Term: 1, Index: 1, Kind: -1}} {
		wantNoPut(t, "negative", message.Message{Kind: message.Append, Term: 1, Entries: []api.Entry{x}})
	}
}

// P402: lists of servers that may not be; Snap must have one.
func TestWrongServers(t *testing.T) {
	m := message.Message{Kind: message.Snap, Term: 1, Data: []byte("data")}
	for _, l := range [][]int{nil, {}, {16}, {1, 1}, {2, 1}, {0, 1, 2, 3, 4, 5, 6, 7}, {0, 256}} {
		m.Servers = l
		wantWrong(t, "servers", m)
	}
	for _, l := range [][]int{{-1}, {-1, 0}, {0, math.MaxInt}, {math.MinInt}, make([]int, 1000)} {
		m.Servers = l
		wantNoPut(t, "servers", m)
	}
	for _, l := range [][]int{{0}, {15}, {0, 15}, {0, 1, 2, 3, 4, 5, 6}, {9, 10, 11, 12, 13, 14, 15}} {
		m.Servers = l
		wantRight(t, "servers", m)
	}
}

// P402: as much data as may be, and one byte more.
func TestData(t *testing.T) {
	m := message.Message{Kind: message.Snap, Term: 1, Servers: []int{3}}
	for _, n := range []int{0, 1, 255, 256, 65535, 65536} {
		m.Data = bytes.Repeat([]byte{0x5a}, n)
		wantRight(t, "data", m)
	}
	for _, n := range []int{65537, 65538, api.MaxBytes, api.MaxBytes + 1, 3 * api.MaxBytes} {
		m.Data = make([]byte, n)
		wantWrong(t, "too much data", m)
	}
}

// P402: bytes that are those of a message but for one thing.
func TestWrongBytes(t *testing.T) {
	head := func(kind byte, yes ...byte) []byte {
		return append([]byte{1, kind, 0, 0, 1, 1, 0, 0, 0, 0}, yes...)
	}
	one := counted(entry(api.Entry{Term: 1, Index: 1, Kind: api.Nothing}))
	list := counted(servers([]int{0}))
	for what, b := range map[string][]byte{
		"nothing":                     nil,
		"Yes of 2":                    head(message.Vote, 1, 2),
		"Yes of 256":                  head(message.Vote, 2, 0, 1),
		"Yes of 257":                  head(message.Vote, 2, 1, 1),
		"Yes of 0 in a byte":          head(message.Vote, 1, 0),
		"Yes of 1 in two bytes":       head(message.Vote, 2, 1, 0),
		"no Yes":                      head(message.Vote),
		"a count of 7 bytes":          head(message.Vote, 7, 1, 1, 1, 1, 1, 1, 1),
		"no number of entries":        head(message.Append, 0),
		"an entry that isn't there":   head(message.Append, 0, 1, 1),
		"entries without end":         head(message.Append, 0, 6, 255, 255, 255, 255, 255, 255),
		"entries without end, one":    slices.Concat(head(message.Append, 0, 6, 255, 255, 255, 255, 255, 255), one),
		"one entry too few":           slices.Concat(head(message.Append, 0, 1, 2), one),
		"one entry too many":          slices.Concat(head(message.Append, 0, 1, 1), one, one),
		"an entry that nobody counts": slices.Concat(head(message.Append, 0, 0), one),
		"an entry without its length": slices.Concat(head(message.Append, 0, 1, 1), one[2:]),
		"an entry and a byte":         slices.Concat(head(message.Append, 0, 1, 1), counted(append(slices.Clone(one[2:]), 0))),
		"no servers":                  head(message.Snap, 0),
		"no data":                     slices.Concat(head(message.Snap, 0), list),
		"data that isn't all there":   slices.Concat(head(message.Snap, 0), list, []byte{1, 2, 'x'}),
		"data and a byte":             slices.Concat(head(message.Snap, 0), list, []byte{1, 2, 'x', 'y', 'z'}),
		"servers and a byte":          slices.Concat(head(message.Snap, 0), counted(append(servers([]int{0}), 0)), []byte{0}),
		"servers without a length":    slices.Concat(head(message.Snap, 0), list[2:], []byte{0}),
		"data ahead of servers":       slices.Concat(head(message.Snap, 0), []byte{1, 2, 'x', 'y'}, list),
		"many zeros":                  make([]byte, 1<<20),
		"many that are none":          bytes.Repeat([]byte{255}, 1<<20),
	} {
		wantNoGet(t, what, b)
	}
}

// P9, P403: of any bytes an error, or what is put as the same bytes.
func wantEither(t *testing.T, b []byte) bool {
	t.Helper()
	m, e := message.Get(b)
	if e != api.OK {
		wantNoGet(t, "bytes", b)
		return false
	}
	if c, e := message.Put(m); e != api.OK || !bytes.Equal(c, b) || !bytes.Equal(model(m), b) {
		t.Errorf("got %v of %v, put as %v, error %d", m, b, c, e)
	}
	return true
}

// P402, P403: bytes cut off at each place, longer by a byte, and with each byte turned into each other value.
func TestSpoiltBytes(t *testing.T) {
	for _, m := range ofEachKind() {
		b := model(m)
		for n := range b {
			wantNoGet(t, "cut off", b[:n:n])
			wantNoGet(t, "cut off at the front", b[n+1:])
		}
		for x := range 256 {
			wantNoGet(t, "longer", append(slices.Clone(b), byte(x)))
		}
		right := 0
		for i := range b {
			c := slices.Clone(b)
			for x := range 256 {
				c[i] = byte(x)
				if wantEither(t, c) {
					right++
				}
			}
		}
		if right < len(b) {
			t.Error("of no other byte a message was made", right)
		}
	}
}

// some: a message that may be, drawn.
func some(r *rand.Rand) message.Message {
	number := func() int { return r.Intn(1 << r.Intn(41)) }
	m := message.Message{Kind: 1 + r.Intn(6), From: r.Intn(16), To: r.Intn(16), Term: 1 + number()/2, A: number(), B: number(), C: number(), D: number(), Yes: r.Intn(2) == 0}
	if m.Kind == message.Append {
		for range r.Intn(9) {
			x := api.Entry{Term: 1 + number()/2, Index: 1 + number()/2, Kind: api.Command, Data: make([]byte, r.Intn(20))}
			r.Read(x.Data)
			m.Entries = append(m.Entries, x)
		}
	}
	if m.Kind == message.Snap {
		m.Servers = r.Perm(16)[:1+r.Intn(7)]
		slices.Sort(m.Servers)
		m.Data = make([]byte, r.Intn(300))
		r.Read(m.Data)
	}
	return m
}

// P403: there and back, and Copy, of many messages; and their bytes with a few changed.
func TestManyMessages(t *testing.T) {
	r := rand.New(rand.NewSource(4))
	for range 5000 {
		m := some(r)
		wantRight(t, "drawn", m)
		if c := message.Copy(m); !same(c, m) {
			t.Error(c, m)
		}
		b := model(m)
		for range 3 {
			b[r.Intn(len(b))] = byte(r.Intn(7))
			wantEither(t, b)
		}
	}
}

// P404: messages that differ in one thing, and drawn ones, have bytes of their own.
func TestUnlikeBytes(t *testing.T) {
	r := rand.New(rand.NewSource(44))
	all := map[string]message.Message{}
	for range 3000 {
		m := some(r)
		for _, n := range []message.Message{m, turned(m), moved(m)} {
			b, e := message.Put(n)
			if old, there := all[string(b)]; e == api.OK && there && !same(old, n) {
				t.Fatalf("the bytes of %v are those of %v", n, old)
			}
			all[string(b)] = n
		}
	}
}

func turned(m message.Message) message.Message {
	m.Yes = !m.Yes
	return m
}

func moved(m message.Message) message.Message {
	m.A, m.B, m.C, m.D, m.From, m.To = m.D, m.A, m.B, m.C, m.To, m.From
	return m
}
