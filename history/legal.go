package history

import "slices"

// someOf: are they numbers of n calls, each once at most?
func someOf(order []int, n int) bool {
	seen := make([]bool, n)
	for _, k := range order {
		if k < 0 || k >= n || seen[k] {
			return false
		}
		seen[k] = true
	}
	return true
}

func inOrder(l []Call, order []int) []Call {
	var row []Call
	for _, k := range order {
		row = append(row, l[k])
	}
	return row
}

// answered: how many are.
func answered(l []Call) int {
	n := 0
	for _, c := range l {
		if c.Answered {
			n++
		}
	}
	return n
}

// late: the first place whose call began when one that stands behind it had ended, or -1. From the last place on, so that the first end of all behind a place is known there.
func late(row []Call) int {
	place, end := -1, moments
	for at, c := range slices.Backward(row) {
		if c.Begin > end {
			place = at
		}
		if c.Answered {
			end = min(end, c.End)
		}
	}
	return place
}

// untrue: the first place whose call was not answered as the log would have, or -1.
func untrue(row []Call) int {
	m := New()
	return slices.IndexFunc(row, func(c Call) bool {
		return !m.do(c) && c.Answered
	})
}
