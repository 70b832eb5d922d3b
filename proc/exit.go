package proc

import (
	"heddle/api"
	"heddle/term"
)

// Put puts a message into a mailbox, if the process lives and has room.
func (t *Table) Put(p api.Term, m api.Term) (bool, error) {
	if !t.made() {
		return false, refuse(api.ErrZero)
	}
	it := t.find(p)
	if it == nil {
		return false, nil
	}
	if err := checkTerm(m); err != nil {
		return false, err
	}
	return t.deliver(it, m), nil
}

// deliver puts a term into a mailbox, and tells whether there was room.
func (t *Table) deliver(it *process, m api.Term) bool {
	if it.vm.Put(m) != nil {
		return false
	}
	if it.vm.State().State == api.Waiting {
		t.enqueue(it.id)
	}
	return true
}

// fate is what an exit signal does to a process.
type fate int

const (
	spared fate = iota
	told
	over
	killed
)

// Exit is an exit signal to a process, by a link or not.
func (t *Table) Exit(p, from, reason api.Term, link bool) (api.ExitKind, error) {
	it, err := t.acting(p)
	if err != nil {
		return api.ExitNone, err
	}
	if err := checkSignal(from, reason); err != nil {
		return api.ExitNone, err
	}
	switch t.fateOf(it, from, reason, link) {
	case killed:
		reason = symbol("killed")
		fallthrough
	case over:
		t.end(it, reason)
		return api.ExitEnded, nil
	case told:
		// Who traps exits is told as much where there is no room for the message.
		_ = t.deliver(it, exitMessage(from, reason))
		return api.ExitMessage, nil
	}
	return api.ExitNone, nil
}

// checkSignal refuses what no exit signal is.
func checkSignal(from, reason api.Term) error {
	if err := checkTerm(from); err != nil {
		return err
	}
	if err := checkTerm(reason); err != nil {
		return err
	}
	if from.Kind != api.KPid {
		return refuse(api.ErrArg)
	}
	return nil
}

func (t *Table) fateOf(it *process, from, reason api.Term, link bool) fate {
	switch {
	case !link && isSymbol(reason, "kill"):
		return killed
	case it.traps:
		return told
	case isSymbol(reason, "normal") && !term.Equal(from, t.pid(it.id)):
		return spared
	}
	return over
}

// exitMessage is what a process that traps exits is told.
func exitMessage(from, reason api.Term) api.Term {
	m := api.Term{Kind: api.KTuple, Args: []api.Term{symbol("EXIT"), from, reason}}
	if term.Check(m) != nil {
		m.Args[2] = symbol("system_limit")
	}
	return m
}

func symbol(text string) api.Term { return api.Term{Kind: api.KAtom, Text: text} }

// isSymbol asks a term.
func isSymbol(t api.Term, text string) bool { return t.Kind == api.KAtom && t.Text == text }

// end is the end of a process: nothing is left of it but its reason.
func (t *Table) end(it *process, reason api.Term) {
	t.living.drop(it.id)
	t.names.drop(it.name)
	t.sleepers.drop(it.id)
	t.queue.leave(it.id)
	if len(t.ended) == api.MaxEnded {
		t.ended[0] = api.Dead{} // else it would be kept as long as the list behind it
		t.ended = t.ended[1:]
	}
	t.ended = append(t.ended, api.Dead{Pid: t.pid(it.id), Reason: term.Copy(reason)})
}

// Trap says whether a process traps exits from now on, and tells whether it did.
func (t *Table) Trap(p api.Term, yes bool) (bool, error) {
	it, err := t.acting(p)
	if err != nil {
		return false, err
	}
	before := it.traps
	it.traps = yes
	return before, nil
}

// Traps tells whether a process traps exits.
func (t *Table) Traps(p api.Term) bool {
	it := t.find(p)
	return it != nil && it.traps
}
