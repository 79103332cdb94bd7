package wire

import (
	"bytes"

	"hustings/api"
)

// fault: the first error of a reader, which stays.
type fault struct {
	first api.Errno
}

// keep: e is the fault, unless there is one.
func (f *fault) keep(e api.Errno) {
	if f.first == api.OK {
		f.first = e
	}
}

// Reader: of bytes, from the first that is not read on.
type Reader struct {
	fault
	made bool
	rest []byte
}

// Number: the number that comes.
func (r *Reader) Number() int {
	if r.Err() != api.OK {
		return 0
	}
	n, size, e := number(r.rest)
	r.pass(size, e)
	return n
}

// Bytes: the bytes that come.
func (r *Reader) Bytes() []byte {
	if r.Err() != api.OK {
		return nil
	}
	data, size, e := counted(r.rest)
	r.pass(size, e)
	return bytes.Clone(data)
}

// Left: how many bytes are not read.
func (r *Reader) Left() int {
	if r == nil {
		return 0
	}
	return len(r.rest)
}

// Err: the first error.
func (r *Reader) Err() api.Errno {
	if r == nil || !r.made {
		return api.ErrArg
	}
	return r.first
}

// End: the first error; without one, whether all is read.
func (r *Reader) End() api.Errno {
	if e := r.Err(); e != api.OK {
		return e
	}
	if len(r.rest) > 0 {
		return api.ErrForm
	}
	return api.OK
}

// over: a reader of b itself, for a call that ends ahead of b's next change.
func over(b []byte) *Reader {
	return &Reader{made: true, rest: b}
}

// pass: goes on behind size bytes, which are 0 at an error: the reader then stays where the call began.
func (r *Reader) pass(size int, e api.Errno) {
	r.keep(e)
	r.rest = r.rest[size:]
}
