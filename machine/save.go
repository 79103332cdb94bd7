package machine

import (
	"hustings/api"
	"hustings/wire"
)

// Save: all of a machine, but its span, as bytes.
func (m *Machine) Save() []byte {
	if !m.made() {
		return nil
	}
	parts := [][]byte{numbers(m.applied, m.start, m.Next(), len(m.sessions))}
	for _, number := range m.Sessions() {
		s := m.sessions[number]
		parts = append(parts, numbers(number, s.seq, s.record, s.used))
	}
	for _, b := range m.records {
		parts = append(parts, counted(b))
	}
	return wire.Join(parts...)
}

// Restore: the machine that was saved.
func Restore(span int, b []byte) (*Machine, api.Errno) {
	m, e := New(span)
	if e != api.OK {
		return nil, e
	}
	r := wire.New(b)
	m.applied, m.start = r.Number(), r.Number()
	next := r.Number()
	if m.applied > maxNumber || next > maxNumber || m.start > next {
		return nil, api.ErrForm
	}
	if !m.readSessions(r, next) || !m.readRecords(r, next) || r.End() != api.OK {
		return nil, api.ErrForm
	}
	return m, api.OK
}

// readSessions: takes the sessions that come; tells whether they may be.
func (m *Machine) readSessions(r *wire.Reader, next int) bool {
	count := r.Number()
	if count > maxSessions {
		return false
	}
	last := 0
	for range count {
		number := r.Number()
		s := &session{seq: r.Number(), record: r.Number(), used: r.Number()}
		if number <= last || s.seq > maxNumber || s.record > max(next-1, 0) || !within(number, s.used, m.applied) {
			return false
		}
		m.sessions[number] = s
		last = number
	}
	return true
}

// readRecords: takes the records that come up to next; tells whether they may be. It ends with the bytes, for next may be far above what is there.
func (m *Machine) readRecords(r *wire.Reader, next int) bool {
	for range next - m.start {
		b := r.Bytes()
		if r.Err() != api.OK || len(b) > api.MaxData {
			return false
		}
		m.records = append(m.records, b)
	}
	return true
}
