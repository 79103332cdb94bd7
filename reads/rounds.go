package reads

import (
	"math"
	"slices"
	"sort"

	"hustings/api"
	"hustings/vote"
)

const (
	never  = -1          // below all rounds: who was not heard yet
	always = math.MaxInt // not below any round: who need not be heard
)

// rounds: by servers, the last one in which each was there.
type rounds [api.MaxID]int

func mayBe(server int) bool {
	return server >= 0 && server < api.MaxID
}

// alone: nobody was heard, and only me is there.
func alone(me int) rounds {
	var r rounds
	for id := range r {
		r[id] = never
	}
	r[me] = always
	return r
}

// there: the servers that were, in a round or a later one.
func (r rounds) there(round int) []int {
	var ids []int
	for id, last := range r {
		if last >= round {
			ids = append(ids, id)
		}
	}
	return ids
}

// won: the last round in which more than half of the servers were there, or never. In an earlier round none fewer were, so it is searched for: a list of servers may be long, and is looked at a few times only.
func (r rounds) won(servers []int) int {
	rising := r
	slices.Sort(rising[:])
	n := sort.Search(len(rising), func(i int) bool { return !vote.Won(servers, r.there(rising[i])) })
	if n == 0 {
		return never
	}
	return rising[n-1]
}
