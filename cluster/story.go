package cluster

// story: a sum of all that befell somebody. How far a timer is, or what a disk has not synced, no look tells till it matters; but all of it hangs on this.
type story uint64

// befell: one thing more, by FNV-1a.
func (s *story) befell(t text) {
	for _, b := range append(t, '\n') {
		*s = (*s ^ story(b)) * 1099511628211
	}
}
