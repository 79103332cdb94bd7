package history

import (
	"bytes"
	"iter"
	"slices"
)

// Model: the log itself.
type Model struct {
	start   int
	records [][]byte // from start on, one by one, so that Next is told by how many there are
}

// New: empty; Put, Trim, Get: calls of it; Start, Next: looks.
func New() *Model {
	return &Model{}
}

func (m *Model) Put(data []byte) int {
	if m == nil {
		return 0
	}
	return m.put(bytes.Clone(data))
}

func (m *Model) Trim(to int) int {
	if m == nil {
		return 0
	}
	if to > m.start {
		gone := min(to, m.Next()) - m.start
		clear(m.records[:gone]) // their bytes would be kept with the room else
		m.records = m.records[gone:]
		m.start += gone
	}
	return m.start
}

func (m *Model) Get(from, most int) ([][]byte, bool) {
	if !m.has(from) {
		return nil, false
	}
	var l [][]byte
	for record := range m.tell(from, most) {
		l = append(l, bytes.Clone(record))
	}
	return l, true
}

func (m *Model) Start() int {
	if m == nil {
		return 0
	}
	return m.start
}

func (m *Model) Next() int {
	if m == nil {
		return 0
	}
	return m.start + len(m.records)
}

// put: the record is kept as it is handed in.
func (m *Model) put(record []byte) int {
	number := m.Next()
	m.records = append(m.records, record)
	return number
}

// has: may a Get begin there?
func (m *Model) has(from int) bool {
	return m != nil && from >= m.start && from <= m.Next()
}

// tell: the records from a number on, at which a Get may begin, at most so many.
func (m *Model) tell(from, most int) iter.Seq[[]byte] {
	l := m.records[from-m.start:]
	return slices.Values(l[:min(max(most, 0), len(l))])
}

// do: does a call; was it answered so? Its Data is not copied, as it is for a Model that is gone when its calls are.
func (m *Model) do(c Call) bool {
	switch c.Kind {
	case Put:
		return m.put(c.Data) == c.Number
	case Trim:
		return m.Trim(c.From) == c.Start
	}
	return m.has(c.From) && c.Number == m.Next() && c.Start == m.start && m.tells(c)
}

// tells: the records of a Get, and no others?
func (m *Model) tells(c Call) bool {
	left := c.Records
	for record := range m.tell(c.From, c.Most) {
		if len(left) == 0 || !bytes.Equal(record, left[0]) {
			return false
		}
		left = left[1:]
	}
	return len(left) == 0
}
