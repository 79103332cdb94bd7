package cluster

import (
	"slices"

	"hustings/api"
	"hustings/client"
	"hustings/node"
)

// patience: of all clients.
const patience = 20

// asker: a client, with what is on the way from it and to it.
type asker struct {
	*client.Client
	story
	calls   []client.Call // that are not carried yet
	answers []node.Answer // that are not brought yet
	last    node.Answer   // of the order that ended last
}

// newAsker: it knows all nodes, so that what it asks always has one to go to.
func newAsker(w, nodes int) *asker {
	c, _ := client.New(w+1, below(nodes), patience)
	return &asker{Client: c}
}

func (a *asker) do(o client.Order) api.Errno {
	e := a.Do(o)
	if e == api.OK {
		a.befell(text("do").order(o))
		a.takeCalls()
	}
	return e
}

// hear: an answer. Has the order ended by it?
func (a *asker) hear(x node.Answer) bool {
	if a.Heard(x) != api.OK {
		return false
	}
	a.befell(text("hear").answer(x))
	a.takeCalls()
	_, last, done := a.Done()
	if done {
		a.last = last
	}
	return done
}

// wait: while it has no order, no time passes for it.
func (a *asker) wait() {
	if !a.Busy() {
		return
	}
	a.befell(text("wait"))
	a.Tick()
	a.takeCalls()
}

// takeCalls: what it asks now is on its way.
func (a *asker) takeCalls() {
	a.calls = append(a.calls, a.Calls()...)
}

// firstCall: of its row, which goes; or none.
func (a *asker) firstCall() client.Call {
	return takeFirst(&a.calls)
}

func (a *asker) firstAnswer() node.Answer {
	return takeFirst(&a.answers)
}

// takeFirst: the first one of a row that waits, which goes; where none waits the call gives up.
func takeFirst[T any](row *[]T) T {
	if len(*row) == 0 {
		giveUp(api.ErrNone)
	}
	first := (*row)[0]
	*row = slices.Delete(*row, 0, 1)
	return first
}

// copyAnswer: the same one, with records of its own.
func copyAnswer(a node.Answer) node.Answer {
	a.Records = copyRows(a.Records)
	return a
}
