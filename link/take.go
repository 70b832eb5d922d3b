package link

import (
	"heddle/api"
	"heddle/dist"
)

// letter is a signal, with what it tells as keys.
type letter struct {
	api.Sig
	sender pid  // zero where a Name stands in its place
	here   pid  // the process that it is for; zero, if there is none
	by     ref  // of a monitor
	whom   whom // whom it names: a monitor's end its sender, all others the process here
}

// Take takes a signal of another node; named is the process that has its Name here, if one has.
func (t *Table) Take(from string, s api.Sig, named api.Term) ([]api.Effect, error) {
	if err := t.checkTake(from, s, named); err != nil {
		return nil, err
	}
	l := t.open(from, s, named)
	if l.sender != (pid{}) && l.sender.node != from {
		return nil, nil
	}
	if it := t.living[l.here]; it != nil {
		return it.take(l), nil
	}
	return l.answer(), nil
}

// checkTake refuses what no other node's signal is.
func (t *Table) checkTake(from string, s api.Sig, named api.Term) error {
	if !t.made() {
		return refuse(api.ErrZero)
	}
	if !t.isOther(from) {
		return refuse(api.ErrArg)
	}
	if err := wrap(dist.Check(s)); err != nil {
		return err
	}
	// Of what has no Kind nothing else is asked.
	if _, isPid := pidOf(named); !isTaken(s.Kind) || !isPid && named.Kind != 0 {
		return refuse(api.ErrArg)
	}
	return nil
}

// isTaken tells whether signals of a kind are about links and monitors.
func isTaken(kind api.SigKind) bool {
	switch kind {
	case api.GLink, api.GUnlink, api.GUnlinkAck, api.GExit, api.GMonitor, api.GDemonitor, api.GMonitorExit:
		return true
	}
	return false
}

// open reads a signal.
func (t *Table) open(from string, s api.Sig, named api.Term) letter {
	l := letter{Sig: s}
	l.sender, _ = pidOf(s.From)
	l.here, _ = pidOf(s.To)
	l.whom = whomOf(l.here, s.Name, t.node)
	switch s.Kind {
	case api.GMonitorExit:
		l.whom = whomOf(l.sender, s.Name, from)
		fallthrough
	case api.GMonitor, api.GDemonitor:
		l.by, _ = refOf(s.Ref)
	}
	if l.here == (pid{}) {
		l.here, _ = pidOf(named)
	}
	return l
}

// take is what a signal does to a living process.
func (it *process) take(l letter) []api.Effect {
	switch l.Kind {
	case api.GLink:
		if it.heeds(l.sender) {
			it.links[l.sender] = none{}
		}
	case api.GUnlink:
		delete(it.links, l.sender)
		return l.answer()
	case api.GUnlinkAck:
		it.confirmed(l.sender, l.ID)
	case api.GExit:
		if it.heeds(l.sender) && it.isLinked(l.sender) {
			delete(it.links, l.sender)
			return []api.Effect{exit(it.self, l.sender, l.Reason)}
		}
	case api.GMonitor:
		if _, there := it.watchers[watch{l.by, l.sender}]; !there {
			it.watchers[watch{l.by, l.sender}] = l.whom
		}
	case api.GDemonitor:
		delete(it.watchers, watch{l.by, l.sender})
	case api.GMonitorExit:
		if m, there := it.monitors[l.by]; there && m.whom == l.whom {
			delete(it.monitors, l.by)
			return []api.Effect{down(it.self, l.by, m.whom, l.Reason)}
		}
	}
	return nil
}

// answer is what the sender is told of an unlink, and of who does not live: nothing of signals that ask for nobody.
func (l letter) answer() []api.Effect {
	switch l.Kind {
	case api.GLink:
		return []api.Effect{exitSignal(l.here, l.sender, noproc())}
	case api.GMonitor:
		return []api.Effect{endSignal(l.whom, watch{l.by, l.sender}, noproc())}
	case api.GUnlink:
		return []api.Effect{linkSignal(api.GUnlinkAck, l.ID, l.here, l.sender)}
	}
	return nil
}
