package wire

import "hustings/api"

const (
	maxIndex   = 1<<40 - 1
	maxCommand = 4096
)

// rightEntry: may it be?
func rightEntry(x api.Entry) bool {
	if x.Term < 1 || x.Term >= api.MaxTerm || x.Index < 1 || x.Index > maxIndex {
		return false
	}
	switch x.Kind {
	case api.Nothing:
		return len(x.Data) == 0
	case api.Command:
		return len(x.Data) <= maxCommand
	case api.Servers:
		_, e := GetServers(x.Data)
		return e == api.OK
	}
	return false
}

// rightServers: may it be?
func rightServers(l []int) bool {
	if len(l) < 1 || len(l) > api.MaxServers {
		return false
	}
	last := -1
	for _, id := range l {
		if id <= last || id >= api.MaxID {
			return false
		}
		last = id
	}
	return true
}
