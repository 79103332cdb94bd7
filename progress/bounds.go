package progress

import "math"

// bounds: what an answer tells of a peer: its Match is at least this one's, and its Next at most; the zero Peer, if it tells nothing.
func bounds(yes bool, at, last int) Peer {
	switch {
	case at < 0 || at-1 > last || yes && at > last:
		return Peer{}
	case yes:
		return Peer{Next: math.MaxInt, Match: at}
	}
	return Peer{Next: at, Match: math.MinInt}
}

// behind: the index behind one; the highest number has none, and stands for it.
func behind(n int) int {
	if n == math.MaxInt {
		return n
	}
	return n + 1
}
