package frame

// width: how many bytes a number has.
const width = 4

// putNumbers: the numbers at b's beginning, one behind the other, the lowest byte of each first.
func putNumbers(b []byte, numbers ...uint32) {
	for i, n := range numbers {
		for j := range width {
			b[i*width+j] = byte(n >> (8 * j))
		}
	}
}

// number: the one at b's beginning.
func number(b []byte) uint32 {
	var n uint32
	for j := range width {
		n |= uint32(b[j]) << (8 * j)
	}
	return n
}
