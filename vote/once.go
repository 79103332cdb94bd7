package vote

// once: what a list has, each thing once, however often it is listed.
func once[T comparable](list []T) map[T]struct{} {
	set := make(map[T]struct{}, len(list))
	for _, x := range list {
		set[x] = struct{}{}
	}
	return set
}

// countIn: how many things of one set are in the other, too.
func countIn[T comparable](set, other map[T]struct{}) int {
	n := 0
	for x := range set {
		if _, in := other[x]; in {
			n++
		}
	}
	return n
}
