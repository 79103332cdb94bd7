package entries_test

import (
	"math/rand"
	"testing"

	"hustings/api"
	"hustings/entries"
)

// terms: a log as a map from its indexes to their terms, the base's among them.
func terms(v entries.View) (m map[int]int, last int) {
	m, last = map[int]int{v.Base: v.Term}, v.Base
	for _, x := range v.L {
		m[x.Index] = x.Term
		last = x.Index
	}
	return m, last
}

// expect: what Try tells, by P1203's words.
func expect(v entries.View, prev, term int, l []api.Entry) entries.Fit {
	here, last := terms(v)
	if prev > last {
		return entries.Fit{Match: last + 1}
	}
	if prev >= v.Base && here[prev] != term {
		first := v.Base
		if prev != v.Base {
			for first = v.Base + 1; here[first] != here[prev]; first++ {
			}
		}
		if first < v.Base+1 {
			first = v.Base + 1
		}
		return entries.Fit{Match: first}
	}
	f := entries.Fit{Yes: true, Match: prev + len(l)}
	if v.Base > f.Match {
		f.Match = v.Base
	}
	for _, x := range l {
		was, there := here[x.Index]
		if f.Cut == 0 && x.Index > v.Base && there && was != x.Term {
			f.Cut = x.Index
		}
	}
	for _, x := range l {
		if f.Cut != 0 && x.Index >= f.Cut || f.Cut == 0 && x.Index > last {
			f.Add = append(f.Add, x)
		}
	}
	return f
}

// wantSame: P1204: up to Match the sent entries behind what was there, and above it what was not cut.
func wantSame(t *testing.T, v, w entries.View, f entries.Fit, prev int, l []api.Entry) {
	t.Helper()
	at := func(l []api.Entry, i int) api.Entry {
		for _, x := range l {
			if x.Index == i {
				return x
			}
		}
		return api.Entry{}
	}
	_, last := terms(w)
	if w.Base != v.Base || w.Term != v.Term || last < f.Match {
		t.Fatalf("%v became %v by %v", v, w, f)
	}
	for i := v.Base + 1; i <= last; i++ {
		want := at(v.L, i)
		if i > prev && i <= f.Match {
			want = at(l, i)
		}
		if i > f.Match && f.Cut != 0 || want.Index != i || !sameEntry(at(w.L, i), want) {
			t.Fatalf("%v became %v by %v, at %d", v, w, f, i)
		}
	}
	if _, was := terms(v); f.Cut == 0 && last < was {
		t.Fatalf("%v became %v by %v: too much went", v, w, f)
	}
}

// wantHint: P1206: at most prev, or the last index and one; above Base.
func wantHint(t *testing.T, v entries.View, prev int, f entries.Fit) {
	t.Helper()
	_, last := terms(v)
	if f.Match > prev && f.Match > last+1 || f.Match <= v.Base || f.Cut != 0 || len(f.Add) != 0 {
		t.Fatalf("Try of %v, %d: hint %v", v, prev, f)
	}
}

// wantAgain: P1205: the same entries fit, and change nothing.
func wantAgain(t *testing.T, w entries.View, f entries.Fit, prev, term int, l []api.Entry) {
	t.Helper()
	again := entries.Try(w, prev, term, l)
	if !sameFit(again, entries.Fit{Yes: true, Match: f.Match}) || !sameView(entries.Do(w, again), w) {
		t.Fatalf("Try of %v, %d, %d, %v again: %v", w, prev, term, l, again)
	}
}

// check: P1203 to P1206 of one View and what is sent to it; what fits, and may be behind it, is answered.
func check(t *testing.T, v entries.View, prev, term int, l []api.Entry) entries.View {
	t.Helper()
	f, want := entries.Try(v, prev, term, l), expect(v, prev, term, l)
	if !sameFit(f, want) {
		t.Fatalf("Try of %v, %d, %d, %v: %v, want %v", v, prev, term, l, f, want)
	}
	w := entries.Do(v, f)
	if !entries.Right(w) {
		t.Fatalf("%v became %v by %v", v, w, f)
	}
	if !f.Yes {
		wantHint(t, v, prev, f)
		if !sameView(w, v) {
			t.Fatalf("%v became %v by %v", v, w, f)
		}
		return w
	}
	// Only below the base can what is sent have fallen below the base's term without a no.
	if len(f.Add) > 0 && f.Add[0].Index == v.Base+1 && f.Add[0].Term < v.Term {
		if !sameView(w, v) {
			t.Fatalf("%v became %v by %v", v, w, f)
		}
		return w
	}
	wantSame(t, v, w, f, prev, l)
	wantAgain(t, w, f, prev, term, l)
	return w
}

// P1203 to P1206: all small Views, and all that can be sent to them in a few entries.
func TestAllSmall(t *testing.T) {
	for base := range 4 {
		for baseTerm := range 4 {
			for _, here := range rises(baseTerm, 3, 3) {
				v := view(base, baseTerm, here...)
				for prev := range base + 5 {
					for term := range 5 {
						for _, sent := range rises(term, 3, 3) {
							check(t, v, prev, term, row(prev, sent...))
						}
					}
				}
			}
		}
	}
}

// P1202: all small Views, at all indexes and terms around them.
func TestLooksOfAllSmall(t *testing.T) {
	for base := range 4 {
		for baseTerm := range 4 {
			for _, here := range rises(baseTerm, 4, 4) {
				v := view(base, baseTerm, here...)
				looksAsTheMap(t, v)
			}
		}
	}
}

func looksAsTheMap(t *testing.T, v entries.View) {
	t.Helper()
	m, last := terms(v)
	if index, term := entries.Last(v); index != last || term != m[last] {
		t.Fatal("Last", v, index, term)
	}
	firsts := map[int]int{}
	for i := last + 2; i >= v.Base-2; i-- {
		want := api.OK
		if i < v.Base {
			want = api.ErrBelow
		} else if i > last {
			want = api.ErrNone
		}
		if term, e := entries.TermOf(v, i); e != want || term != m[i] {
			t.Fatal("TermOf", i, v, term, e)
		}
		for most := -1; most < 6; most++ {
			if l := entries.From(v, i, most); !sameList(l, fromMap(v, i, most)) {
				t.Fatal("From", i, most, v, l)
			}
		}
		if i > v.Base && i <= last {
			firsts[m[i]] = i
		}
	}
	for term := range 6 {
		if n := entries.First(v, term); n != firsts[term] {
			t.Fatal("First", term, v, n)
		}
	}
}

func fromMap(v entries.View, i, most int) []api.Entry {
	var l []api.Entry
	for _, x := range v.L {
		if x.Index >= i && len(l) < most {
			l = append(l, x)
		}
	}
	return l
}

// P1203 to P1206: a log that grows and shrinks by what several leaders send, with data.
func TestManyLeaders(t *testing.T) {
	for seed := range int64(200) {
		r := rand.New(rand.NewSource(seed))
		v := entries.View{Base: r.Intn(3) * 10, Term: r.Intn(2)}
		for range 100 {
			m, last := terms(v)
			prev := max(0, last+2-r.Intn(8))
			term := m[prev]
			if r.Intn(4) == 0 {
				term = r.Intn(6)
			}
			var l []api.Entry
			of := max(term, 1)
			for n := range r.Intn(api.MaxBatch + 1) {
				of += r.Intn(4) / 3
				l = append(l, api.Entry{Term: of, Index: prev + 1 + n, Kind: api.Command, Data: []byte{byte(of), byte(prev + 1 + n)}})
			}
			v = check(t, v, prev, term, l)
		}
	}
}
