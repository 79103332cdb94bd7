package wire

import "hustings/api"

const (
	mostBytes = 6 // of a number
	maxNumber = 1<<(8*mostBytes) - 1
)

// numbers: those numbers, which may be, one behind the other.
func numbers(l ...int) []byte {
	var b []byte
	for _, n := range l {
		b = append(b, byte(width(n)))
		for ; n > 0; n >>= 8 {
			b = append(b, byte(n))
		}
	}
	return b
}

// width: how many bytes n has, without its count.
func width(n int) int {
	w := 0
	for ; n > 0; n >>= 8 {
		w++
	}
	return w
}

// number: the one at b's beginning, and how many bytes it takes there.
func number(b []byte) (n, size int, e api.Errno) {
	if len(b) == 0 {
		return 0, 0, api.ErrEnd
	}
	// A count that may not be is seen without what it counts, so ErrForm comes ahead of ErrEnd here.
	count := int(b[0])
	if count > mostBytes {
		return 0, 0, api.ErrForm
	}
	size = 1 + count
	if len(b) < size {
		return 0, 0, api.ErrEnd
	}
	if count > 0 && b[count] == 0 {
		return 0, 0, api.ErrForm
	}
	for i := count; i > 0; i-- {
		n = n<<8 | int(b[i])
	}
	return n, size, api.OK
}

// counted: the bytes behind their number at b's beginning, a piece of b, and how many bytes both take there.
func counted(b []byte) (data []byte, size int, e api.Errno) {
	length, begin, e := number(b)
	if e != api.OK {
		return nil, 0, e
	}
	if length > api.MaxBytes {
		return nil, 0, api.ErrForm
	}
	size = begin + length
	if len(b) < size {
		return nil, 0, api.ErrEnd
	}
	return b[begin:size], size, api.OK
}
