package wire_test

import (
	"bytes"
	"math"
	"math/rand"
	"slices"
	"testing"

	"hustings/api"
	"hustings/wire"
)

const (
	mostNumber  = 1<<48 - 1
	mostIndex   = 1<<40 - 1
	mostCommand = 4096
)

// number: as the document's words tell it, by dividing.
func number(n int) []byte {
	var l []byte
	for ; n > 0; n /= 256 {
		l = append(l, byte(n%256))
	}
	return append([]byte{byte(len(l))}, l...)
}

// row: numbers, one behind the other.
func row(l ...int) []byte {
	var b []byte
	for _, n := range l {
		b = append(b, number(n)...)
	}
	return b
}

// counted: bytes as bytes.
func counted(b []byte) []byte {
	return append(number(len(b)), b...)
}

// entry: as the document's words tell it, whether it may be or not.
func entry(term, index, kind int, data []byte) []byte {
	return append(row(term, index, kind), counted(data)...)
}

// servers: as the document's words tell it, whether it may be or not.
func servers(l ...int) []byte {
	return append(number(len(l)), row(l...)...)
}

func sameEntry(x, y api.Entry) bool {
	return x.Term == y.Term && x.Index == y.Index && x.Kind == y.Kind && bytes.Equal(x.Data, y.Data)
}

func wantBytes(t *testing.T, what string, got []byte, e api.Errno, want []byte) {
	t.Helper()
	if e != api.OK || !bytes.Equal(got, want) {
		t.Errorf("%s: %v, %d; want %v", what, got, e, want)
	}
}

func wantRefused(t *testing.T, what string, got []byte, e, want api.Errno) {
	t.Helper()
	if e != want || len(got) != 0 {
		t.Errorf("%s: %d bytes, %d; want none, %d", what, len(got), e, want)
	}
}

// edges: numbers that may be, at and beside each edge of a byte.
func edges() []int {
	l := []int{0}
	for bit := range 48 {
		l = append(l, 1<<bit-1, 1<<bit, 1<<bit+1)
	}
	l = append(l, mostNumber-1, mostNumber)
	slices.Sort(l)
	return slices.Compact(l)
}

// P302: the document's examples, and others written out by hand.
func TestPutNumberExamples(t *testing.T) {
	for _, c := range []struct {
		n    int
		want []byte
	}{
		{0, []byte{0}},
		{1, []byte{1, 1}},
		{255, []byte{1, 255}},
		{256, []byte{2, 0, 1}},
		{300, []byte{2, 44, 1}},
		{65535, []byte{2, 255, 255}},
		{65536, []byte{3, 0, 0, 1}},
		{0x0102030405, []byte{5, 5, 4, 3, 2, 1}},
		{1 << 40, []byte{6, 0, 0, 0, 0, 0, 1}},
		{mostNumber, []byte{6, 255, 255, 255, 255, 255, 255}},
	} {
		b, e := wire.PutNumber(c.n)
		wantBytes(t, "PutNumber", b, e, c.want)
	}
}

func TestPutNumberAtEdges(t *testing.T) {
	for _, n := range edges() {
		b, e := wire.PutNumber(n)
		wantBytes(t, "PutNumber", b, e, number(n))
	}
	for _, n := range []int{-1, -2, -256, math.MinInt, mostNumber + 1, mostNumber + 2, 1 << 56, 1<<62 + 1, math.MaxInt} {
		b, e := wire.PutNumber(n)
		wantRefused(t, "PutNumber", b, e, api.ErrRange)
	}
}

// P302: bytes as bytes, up to the most, and one more.
func TestPutBytes(t *testing.T) {
	for _, b := range [][]byte{nil, {}} {
		got, e := wire.PutBytes(b)
		wantBytes(t, "PutBytes of nothing", got, e, []byte{0})
	}
	got, e := wire.PutBytes([]byte("ab"))
	wantBytes(t, "PutBytes(ab)", got, e, []byte{1, 2, 'a', 'b'})
	for _, n := range []int{1, 255, 256, 257, 65535, 65536, api.MaxBytes - 1, api.MaxBytes} {
		b := bytes.Repeat([]byte{7}, n)
		got, e := wire.PutBytes(b)
		if e != api.OK || !bytes.Equal(got, counted(b)) {
			t.Errorf("PutBytes of %d bytes: %d bytes, %d", n, len(got), e)
		}
	}
	for _, n := range []int{api.MaxBytes + 1, 2 * api.MaxBytes} {
		got, e := wire.PutBytes(make([]byte, n))
		wantRefused(t, "PutBytes of too many", got, e, api.ErrSize)
	}
}

// P302.
func TestJoin(t *testing.T) {
	for _, c := range []struct {
		parts [][]byte
		want  string
	}{
		{nil, ""},
		{[][]byte{}, ""},
		{[][]byte{nil}, ""},
		{[][]byte{nil, {}, nil}, ""},
		{[][]byte{[]byte("a")}, "a"},
		{[][]byte{[]byte("a"), nil, []byte("bc"), {}, []byte("d")}, "abcd"},
		{[][]byte{[]byte("b"), []byte("a"), []byte("b")}, "bab"},
	} {
		if got := wire.Join(c.parts...); string(got) != c.want {
			t.Errorf("Join(%q): %q", c.parts, got)
		}
	}
	if got := wire.Join(); len(got) != 0 {
		t.Errorf("Join(): %q", got)
	}
	part := bytes.Repeat([]byte("0123456789"), 100)
	parts := slices.Repeat([][]byte{part}, 1000)
	if got := wire.Join(parts...); !bytes.Equal(got, bytes.Repeat(part, 1000)) {
		t.Error("Join of many parts")
	}
}

// entriesThatMayBe: ordinary ones, and those at each edge.
func entriesThatMayBe() []api.Entry {
	l := []api.Entry{
		{Term: 3, Index: 9, Kind: api.Command, Data: []byte("hello")},
		{Term: 1, Index: 1, Kind: api.Nothing},
		{Term: 1, Index: 1, Kind: api.Nothing, Data: []byte{}},
		{Term: api.MaxTerm - 1, Index: mostIndex, Kind: api.Nothing},
		{Term: 255, Index: 256, Kind: api.Command},
		{Term: 256, Index: 65536, Kind: api.Command, Data: []byte{0}},
		{Term: 1, Index: 2, Kind: api.Command, Data: make([]byte, mostCommand)},
		{Term: 1, Index: 2, Kind: api.Command, Data: bytes.Repeat([]byte{255}, mostCommand-1)},
	}
	for _, list := range listsThatMayBe() {
		l = append(l, api.Entry{Term: 5, Index: 6, Kind: api.Servers, Data: servers(list...)})
	}
	return l
}

// entriesThatMayNotBe: each breaks one rule. (What is negative has no bytes.)
func entriesThatMayNotBe() []api.Entry {
	l := []api.Entry{
		{},
		{Term: 0, Index: 1, Kind: api.Nothing},
		{Term: 1, Index: 0, Kind: api.Nothing},
		{Term: api.MaxTerm, Index: 1, Kind: api.Nothing},
		{Term: 1, Index: mostIndex + 1, Kind: api.Nothing},
		{Term: mostNumber, Index: 1, Kind: api.Nothing},
		{Term: 1, Index: mostNumber, Kind: api.Nothing},
		{Term: 1, Index: 1, Kind: 0},
		{Term: 1, Index: 1, Kind: 4},
		{Term: 1, Index: 1, Kind: 257},
		{Term: 1, Index: 1, Kind: 1<<32 + 1},
		{Term: 1, Index: 1, Kind: api.Nothing, Data: []byte{0}},
		{Term: 1, Index: 1, Kind: api.Nothing, Data: servers(1)},
		{Term: 1, Index: 1, Kind: api.Command, Data: make([]byte, mostCommand+1)},
		{Term: 1, Index: 1, Kind: api.Command, Data: make([]byte, api.MaxBytes)},
		{Term: 1, Index: 1, Kind: api.Servers},
		{Term: 1, Index: 1, Kind: api.Servers, Data: []byte("hello")},
	}
	for _, b := range bytesOfNoList() {
		l = append(l, api.Entry{Term: 1, Index: 1, Kind: api.Servers, Data: b})
	}
	return l
}

func listsThatMayBe() [][]int {
	return [][]int{{0}, {15}, {1, 2}, {0, 15}, {0, 1, 2, 3, 4, 5, 6}, {9, 10, 11, 12, 13, 14, 15}, {0, 2, 4, 6, 8, 10, 12}}
}

func listsThatMayNotBe() [][]int {
	return [][]int{
		nil, {}, {16}, {0, 16}, {1, 1}, {2, 1}, {0, 2, 1}, {0, 1, 1, 2}, {15, 0}, {3, 4, 0},
		{256}, {mostNumber}, {0, 1, 2, 3, 4, 5, 6, 7}, {8, 9, 10, 11, 12, 13, 14, 15},
		{0, 0, 0, 0, 0, 0, 0}, make([]int, 300),
	}
}

// bytesOfNoList: those of lists that may not be, and bytes of none at all.
func bytesOfNoList() [][]byte {
	l := [][]byte{
		nil, {}, {1}, {1, 1}, {1, 2, 1, 1}, {0, 0}, {2, 1, 0, 0}, {1, 0},
		{1, 1, 2, 1, 0},          // a server with a last byte that is 0
		{1, 1, 1, 0},             // the server 0 with a byte
		{7, 1, 1},                // a count of 7 bytes
		{1, 1, 7, 1},             // the same of a server
		append(servers(1, 2), 0), // a byte behind it
		append(servers(1, 2), 1), // another one
		append(servers(1), 1, 2), // a server that is not counted
		servers(1, 2)[1:],        // without its count
		servers(1, 2)[:5],        // without its last byte
		append([]byte{0}, 1, 1),  // counted as none
		number(mostNumber),       // the highest count, and nothing
		append(number(1<<40), 0), // a count above all
		row(8, 0),                // a count of 8, and one server
	}
	for _, list := range listsThatMayNotBe() {
		l = append(l, servers(list...))
	}
	return l
}

// P302, P304, P305: entries that may be, there and back.
func TestEntries(t *testing.T) {
	for _, x := range entriesThatMayBe() {
		b, e := wire.PutEntry(x)
		wantBytes(t, "PutEntry", b, e, entry(x.Term, x.Index, x.Kind, x.Data))
		y, e := wire.GetEntry(b)
		if e != api.OK || !sameEntry(x, y) {
			t.Errorf("GetEntry: %v, %d; want %v", y, e, x)
		}
	}
	b, e := wire.PutEntry(api.Entry{Term: 3, Index: 300, Kind: api.Command, Data: []byte("hi")})
	wantBytes(t, "PutEntry", b, e, []byte{1, 3, 2, 44, 1, 1, 2, 1, 2, 'h', 'i'})
	b, e = wire.PutEntry(api.Entry{Term: 1, Index: 2, Kind: api.Nothing})
	wantBytes(t, "PutEntry", b, e, []byte{1, 1, 1, 2, 1, 1, 0})
}

// P302, P304: entries that may not be, refused both ways.
func TestEntriesThatMayNotBe(t *testing.T) {
	for _, x := range entriesThatMayNotBe() {
		b, e := wire.PutEntry(x)
		wantRefused(t, "PutEntry", b, e, api.ErrArg)
		y, e := wire.GetEntry(entry(x.Term, x.Index, x.Kind, x.Data))
		if e != api.ErrForm || !sameEntry(y, api.Entry{}) {
			t.Errorf("GetEntry of one that may not be (%d, %d, %d, %d bytes): %v, %d", x.Term, x.Index, x.Kind, len(x.Data), y, e)
		}
	}
	for _, n := range []int{-1, math.MinInt, math.MaxInt} {
		for _, x := range []api.Entry{
			{Term: n, Index: 1, Kind: api.Nothing}, {Term: 1, Index: n, Kind: api.Nothing}, {Term: 1, Index: 1, Kind: n},
		} {
			b, e := wire.PutEntry(x)
			wantRefused(t, "PutEntry", b, e, api.ErrArg)
		}
	}
}

// P304: bytes that are no entry's: cut off anywhere, with more behind, with other forms of its numbers, too many bytes.
func TestGetEntryRefuses(t *testing.T) {
	refuse := func(what string, b []byte) {
		t.Helper()
		if x, e := wire.GetEntry(b); e != api.ErrForm || !sameEntry(x, api.Entry{}) {
			t.Errorf("%s: %v, %d", what, x, e)
		}
	}
	for _, x := range entriesThatMayBe() {
		b := entry(x.Term, x.Index, x.Kind, x.Data)
		for n := range len(b) {
			refuse("cut off", b[:n])
		}
		for _, more := range [][]byte{{0}, {1}, {255}, b} {
			refuse("more behind", append(bytes.Clone(b), more...))
		}
	}
	refuse("nil", nil)
	refuse("a term with a last byte that is 0", []byte{2, 1, 0, 1, 2, 1, 1, 0})
	refuse("a length with a last byte that is 0", []byte{1, 1, 1, 2, 1, 1, 1, 0})
	refuse("a term of 7 bytes", []byte{7, 1, 1, 1, 1, 1, 1, 1, 1, 2, 1, 1, 0})
	refuse("a length above all", append(row(1, 2, api.Command), number(mostNumber)...))
	refuse("too many bytes, all there", entry(1, 2, api.Command, make([]byte, api.MaxBytes+1)))
}

// P302, P304, P305: lists.
func TestServers(t *testing.T) {
	b, e := wire.PutServers([]int{1, 2})
	wantBytes(t, "PutServers(1, 2)", b, e, []byte{1, 2, 1, 1, 1, 2})
	b, e = wire.PutServers([]int{0})
	wantBytes(t, "PutServers(0)", b, e, []byte{1, 1, 0})
	// Each set of servers, by its bits.
	for set := range 1 << api.MaxID {
		var l []int
		for id := range api.MaxID {
			if set>>id&1 == 1 {
				l = append(l, id)
			}
		}
		b, e := wire.PutServers(l)
		if len(l) < 1 || len(l) > api.MaxServers {
			wantRefused(t, "PutServers", b, e, api.ErrArg)
			continue
		}
		if e != api.OK || !bytes.Equal(b, servers(l...)) {
			t.Fatalf("PutServers(%v): %v, %d", l, b, e)
		}
		if got, e := wire.GetServers(b); e != api.OK || !slices.Equal(got, l) {
			t.Fatalf("GetServers of %v: %v, %d", l, got, e)
		}
	}
}

func TestServersThatMayNotBe(t *testing.T) {
	for _, l := range append(listsThatMayNotBe(), []int{-1}, []int{-1, 0}, []int{0, -1}, []int{math.MinInt}, []int{0, math.MaxInt}, make([]int, 100000)) {
		b, e := wire.PutServers(l)
		wantRefused(t, "PutServers", b, e, api.ErrArg)
	}
	for _, b := range bytesOfNoList() {
		if l, e := wire.GetServers(b); e != api.ErrForm || len(l) != 0 {
			t.Errorf("GetServers(%v): %v, %d", b, l, e)
		}
	}
}

// P9, P305: of any bytes an error, or what is put as the same bytes.
func TestGetOfAnyBytes(t *testing.T) {
	random := rand.New(rand.NewSource(1))
	var seeds [][]byte
	for _, x := range entriesThatMayBe() {
		if len(x.Data) < 100 {
			seeds = append(seeds, entry(x.Term, x.Index, x.Kind, x.Data))
		}
	}
	for _, l := range listsThatMayBe() {
		seeds = append(seeds, servers(l...))
	}
	got := 0
	for range 200000 {
		b := bytes.Clone(seeds[random.Intn(len(seeds))])
		for range random.Intn(4) {
			b[random.Intn(len(b))] = byte(random.Intn(1 << random.Intn(9)))
		}
		if x, e := wire.GetEntry(b); e == api.OK {
			got++
			again, e := wire.PutEntry(x)
			wantBytes(t, "PutEntry of what was got", again, e, b)
		} else if e != api.ErrForm {
			t.Fatalf("GetEntry(%v): %d", b, e)
		}
		if l, e := wire.GetServers(b); e == api.OK {
			got++
			again, e := wire.PutServers(l)
			wantBytes(t, "PutServers of what was got", again, e, b)
		} else if e != api.ErrForm {
			t.Fatalf("GetServers(%v): %d", b, e)
		}
	}
	if got < 1000 {
		t.Errorf("only %d were got: the bytes try too little", got)
	}
}
