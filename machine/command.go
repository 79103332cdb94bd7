package machine

import (
	"hustings/api"
	"hustings/wire"
)

// Kinds of a command.
const (
	opening  = 1
	putting  = 2
	trimming = 3
)

// command: what bytes ask for; the fields that its kind does not have are zero.
type command struct {
	kind, session, seq, to int
	data                   []byte
}

// Open: the command to open a session.
func Open() []byte {
	return numbers(opening)
}

// Put: the command to put a record, once for a session and a seq.
func Put(session, seq int, data []byte) ([]byte, api.Errno) {
	if !within(1, session, maxNumber) || !within(1, seq, maxNumber) {
		return nil, api.ErrArg
	}
	if len(data) > api.MaxData {
		return nil, api.ErrSize
	}
	return wire.Join(numbers(putting, session, seq), counted(data)), api.OK
}

// Trim: the command to let go of the records below a number.
func Trim(to int) ([]byte, api.Errno) {
	if !within(0, to, maxNumber) {
		return nil, api.ErrArg
	}
	return numbers(trimming, to), api.OK
}

// parse: the command that bytes are, if they are one.
func parse(b []byte) (c command, ok bool) {
	r := wire.New(b)
	c.kind = r.Number()
	switch c.kind {
	case opening:
		ok = true
	case putting:
		c.session, c.seq, c.data = r.Number(), r.Number(), r.Bytes()
		ok = within(1, c.session, maxNumber) && within(1, c.seq, maxNumber) && len(c.data) <= api.MaxData
	case trimming:
		c.to = r.Number()
		ok = within(0, c.to, maxNumber)
	}
	return c, ok && r.End() == api.OK
}

func within(least, n, most int) bool {
	return least <= n && n <= most
}

// numbers: those numbers, one behind the other. None that a machine has comes near to the greatest that there can be.
func numbers(l ...int) []byte {
	var parts [][]byte
	for _, n := range l {
		b, _ := wire.PutNumber(n)
		parts = append(parts, b)
	}
	return wire.Join(parts...)
}

// counted: bytes behind their number. A record never comes near to the most that there can be.
func counted(b []byte) []byte {
	c, _ := wire.PutBytes(b)
	return c
}
