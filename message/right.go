package message

import "hustings/api"

const (
	maxNumber = 1 << 40 // of A, B, C and D
	maxData   = 65536   // of Data, in bytes
)

// span: the numbers that a field may be.
type span struct {
	least, most int
}

// spans: of the fields, as fields tells them.
var spans = [8]span{
	{Ask, Have},
	{0, api.MaxID - 1},
	{0, api.MaxID - 1},
	{1, api.MaxTerm - 1},
	{0, maxNumber},
	{0, maxNumber},
	{0, maxNumber},
	{0, maxNumber},
}

// fields: where the numbers of a message stand, in the order of its bytes, so that checking, writing and reading can't differ in it.
func fields(m *Message) [8]*int {
	return [8]*int{&m.Kind, &m.From, &m.To, &m.Term, &m.A, &m.B, &m.C, &m.D}
}

// check: gives up, if a message may not be. The entries and servers themselves are wire's to refuse.
func check(m *Message) {
	for i, p := range fields(m) {
		need(spans[i].least <= *p && *p <= spans[i].most)
	}
	need(len(m.Entries) == 0 || m.Kind == Append)
	need(len(m.Entries) <= api.MaxBatch)
	need(len(m.Servers) == 0 || m.Kind == Snap)
	need(len(m.Data) == 0 || m.Kind == Snap)
	need(len(m.Data) <= maxData)
}

// need: gives up, unless it is so. Put and Get say which error that is.
func need(so bool) {
	if !so {
		panic("a message that may not be")
	}
}
