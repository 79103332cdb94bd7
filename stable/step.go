package stable

import "hustings/api"

// step: one change of a disk.
type step func() api.Errno

// inTurn: does steps up to the first that fails.
func inTurn(steps ...step) api.Errno {
	for _, do := range steps {
		if e := do(); e != api.OK {
			return e
		}
	}
	return api.OK
}

// on: a call that takes a name, as a step on that file.
func on(name string, call func(string) api.Errno) step {
	return func() api.Errno { return call(name) }
}

// ifThere: a step that is left out where its file is not there.
func ifThere(do step) step {
	return func() api.Errno {
		if e := do(); e != api.ErrNone {
			return e
		}
		return api.OK
	}
}
