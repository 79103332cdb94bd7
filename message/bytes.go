package message

import (
	"hustings/api"
	"hustings/wire"
)

// written: the bytes of a message that was checked.
func written(m *Message) []byte {
	var parts [][]byte
	for _, p := range fields(m) {
		parts = append(parts, sure(wire.PutNumber(*p)))
	}
	parts = append(parts, sure(wire.PutNumber(asNumber(m.Yes))))
	switch m.Kind {
	case Append:
		parts = append(parts, sure(wire.PutNumber(len(m.Entries))))
		for _, x := range m.Entries {
			parts = append(parts, sure(wire.PutBytes(sure(wire.PutEntry(x)))))
		}
	case Snap:
		parts = append(parts, sure(wire.PutBytes(sure(wire.PutServers(m.Servers)))))
		parts = append(parts, sure(wire.PutBytes(m.Data)))
	}
	return wire.Join(parts...)
}

// read: the message that stands in b and fills it, not checked yet.
func read(b []byte) Message {
	var m Message
	r := wire.New(b)
	for _, p := range fields(&m) {
		*p = r.Number()
	}
	m.Yes = asBool(r.Number())
	switch m.Kind {
	case Append:
		m.Entries = readEntries(r)
	case Snap:
		m.Servers = sure(wire.GetServers(r.Bytes()))
		m.Data = r.Bytes()
	}
	need(r.End() == api.OK)
	return m
}

// readEntries: how many, and they. The first one that is not there gives up, so a high number alone takes no time.
func readEntries(r *wire.Reader) []api.Entry {
	var l []api.Entry
	for range r.Number() {
		l = append(l, sure(wire.GetEntry(r.Bytes())))
	}
	return l
}

// sure: what wire answered; gives up at its error.
func sure[T any](answer T, e api.Errno) T {
	need(e == api.OK)
	return answer
}

func asNumber(yes bool) int {
	if yes {
		return 1
	}
	return 0
}

func asBool(n int) bool {
	need(n == 0 || n == 1)
	return n == 1
}
