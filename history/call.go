package history

import (
	"cmp"
	"slices"
)

const (
	maxCalls = 2000
	moments  = 1 << 40 // a moment is below it
	maxAt    = 1 << 40
)

// mayBe: may it be, whatever the other ones are?
func (c Call) mayBe() bool {
	return c.Client >= 0 && c.Kind >= Put && c.Kind <= Trim && c.At >= 0 && c.At <= maxAt && c.hadTime()
}

// hadTime: may it have begun, and ended, at its moments?
func (c Call) hadTime() bool {
	if c.Begin < 0 || c.Begin >= moments {
		return false
	}
	return !c.Answered || c.Begin < c.End && c.End < moments
}

// apart: do no two calls of one client overlap? Each ends ahead of the next one, so it is enough to look at neighbours; and since it ends behind its own beginning, two that began at one moment are refused.
func apart(l []Call) bool {
	row := slices.Clone(l)
	slices.SortFunc(row, func(a, b Call) int {
		return cmp.Or(cmp.Compare(a.Client, b.Client), cmp.Compare(a.Begin, b.Begin))
	})
	for i := 1; i < len(row); i++ {
		was, next := row[i-1], row[i]
		if was.Client == next.Client && !(was.Answered && was.End <= next.Begin) {
			return false
		}
	}
	return true
}

// counts: is it one that stands in a log, or looked at one?
func (c Call) counts() bool {
	return c.Answered || c.At > 0 && (c.Kind == Put || c.Kind == Trim)
}

// claims: which of two counted first, as somebody claims.
func claims(a, b Call) int {
	return cmp.Or(cmp.Compare(a.At, b.At), cmp.Compare(a.turn(), b.turn()), cmp.Compare(a.Begin, b.Begin))
}

// turn: of one place a Get sees what was done there.
func (c Call) turn() int {
	if c.Kind == Get {
		return 1
	}
	return 0
}
