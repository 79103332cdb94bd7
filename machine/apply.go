package machine

import "hustings/api"

// Result: of a command.
type Result struct {
	E               api.Errno
	Session, Number int
}

// Apply: does a command at an index. Its outcome, errors of the command too, is the Result; the error beside it says that nothing was applied.
func (m *Machine) Apply(index int, command []byte) (Result, api.Errno) {
	if !m.made() {
		return Result{}, api.ErrArg
	}
	if index <= m.applied {
		return Result{}, api.ErrGap
	}
	if index > maxNumber {
		return Result{}, api.ErrRange
	}
	m.applied = index
	// Ahead of a look at the command, so that it hangs on the index alone which sessions there are.
	m.expire()
	c, ok := parse(command)
	if !ok {
		return Result{E: api.ErrForm}, api.OK
	}
	return m.do(c), api.OK
}

// expire: the sessions go that were not used for a span.
func (m *Machine) expire() {
	for number, s := range m.sessions {
		if s.used <= m.applied-m.span {
			delete(m.sessions, number)
		}
	}
}

// do: a command, at the index that is applied. An opened session is used as by a put that is asked again: its seq of 0 is the session's last one.
func (m *Machine) do(c command) (r Result) {
	switch c.kind {
	case opening:
		if len(m.sessions) == maxSessions {
			return Result{E: api.ErrSession}
		}
		m.sessions[m.applied] = &session{}
		c.session, r.Session = m.applied, m.applied
		fallthrough
	case putting:
		r.Number, r.E = m.put(c)
	case trimming:
		r.Number = m.trim(c.to)
	}
	return r
}

// put: the number of the record of a session's seq, which is new if the seq is.
func (m *Machine) put(c command) (int, api.Errno) {
	s := m.sessions[c.session]
	if s == nil {
		return 0, api.ErrSession
	}
	s.used = m.applied
	if c.seq < s.seq {
		return 0, api.ErrOld
	}
	if c.seq > s.seq {
		s.seq, s.record = c.seq, m.Next()
		m.records = append(m.records, c.data)
	}
	return s.record, api.OK
}

// trim: where the records start then. Those that are gone are cleared, for the room in which the list stands may last.
func (m *Machine) trim(to int) int {
	if gone := min(to, m.Next()) - m.start; gone > 0 {
		clear(m.records[:gone])
		m.records = m.records[gone:]
		m.start += gone
	}
	return m.start
}
