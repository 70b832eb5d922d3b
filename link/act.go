package link

import (
	"heddle/api"
	"heddle/atom"
	"heddle/term"
)

// Link links a process with another one.
func (t *Table) Link(p, q api.Term) ([]api.Effect, error) {
	it, err := t.acting(p)
	if err != nil {
		return nil, err
	}
	other, ok := pidOf(q)
	if !ok {
		return nil, refuse(api.ErrArg)
	}
	if other == it.self || it.isLinked(other) {
		return nil, nil
	}
	if other.node != t.node {
		it.links[other] = none{}
		return []api.Effect{linkSignal(api.GLink, 0, it.self, other)}, nil
	}
	partner := t.living[other]
	if partner == nil {
		return []api.Effect{exit(it.self, other, noproc())}, nil
	}
	it.links[other], partner.links[it.self] = none{}, none{}
	return nil, nil
}

// Unlink undoes it.
func (t *Table) Unlink(p, q api.Term) ([]api.Effect, error) {
	it, err := t.acting(p)
	if err != nil {
		return nil, err
	}
	other, ok := pidOf(q)
	if !ok {
		return nil, refuse(api.ErrArg)
	}
	if !it.isLinked(other) {
		return nil, nil
	}
	delete(it.links, other)
	if partner := t.living[other]; partner != nil {
		delete(partner.links, it.self)
		return nil, nil
	}
	t.unlinks = t.unlinks%api.MaxUnlinks + 1
	it.unlinked(other, t.unlinks)
	return []api.Effect{linkSignal(api.GUnlink, t.unlinks, it.self, other)}, nil
}

// Monitor watches a process, or (name is not empty) the one that has a name on a node: q is the process, if it is known.
func (t *Table) Monitor(p, ref, q api.Term, name, node string) ([]api.Effect, error) {
	it, err := t.acting(p)
	if err != nil {
		return nil, err
	}
	by, isRef := refOf(ref)
	target, fits := watchable(q, name, node)
	if !isRef || !fits {
		return nil, refuse(api.ErrArg)
	}
	if _, twice := it.monitors[by]; twice {
		return nil, refuse(api.ErrTwice)
	}
	if target.whom.home() != t.node {
		it.monitors[by] = monitor{whom: target.whom}
		return []api.Effect{watchSignal(api.GMonitor, it.self, by, target.whom)}, nil
	}
	other := t.living[target.watched]
	if other == nil {
		return []api.Effect{down(it.self, by, target.whom, noproc())}, nil
	}
	it.monitors[by] = target
	other.watchers[watch{by, it.self}] = target.whom
	return nil, nil
}

// watchable is the monitor that is asked for, with the process that is known, and whether there may be such a one.
func watchable(q api.Term, name, node string) (monitor, bool) {
	other, isPid := pidOf(q)
	if name == "" {
		return monitor{whom{pid: other}, other}, isPid
	}
	// Of what has no Kind nothing else is asked.
	fits := atom.Valid(name) && isNode(node) && (isPid || q.Kind == 0)
	return monitor{whom{name: name, node: node}, other}, fits
}

// Demonitor ends a monitor.
func (t *Table) Demonitor(p, ref api.Term) ([]api.Effect, error) {
	it, err := t.acting(p)
	if err != nil {
		return nil, err
	}
	by, ok := refOf(ref)
	if !ok {
		return nil, refuse(api.ErrArg)
	}
	if _, there := it.monitors[by]; !there {
		return nil, nil
	}
	return t.demonitor(it, by), nil
}

// demonitor ends a monitor that is there.
func (t *Table) demonitor(it *process, by ref) []api.Effect {
	m := it.monitors[by]
	delete(it.monitors, by)
	if m.whom.home() != t.node {
		return []api.Effect{watchSignal(api.GDemonitor, it.self, by, m.whom)}
	}
	// Whoever is watched here lives: its end ends the monitor.
	delete(t.living[m.watched].watchers, watch{by, it.self})
	return nil
}

// End says that a process has ended.
func (t *Table) End(p, reason api.Term) ([]api.Effect, error) {
	it, err := t.acting(p)
	if err != nil {
		return nil, err
	}
	if term.Check(reason) != nil {
		return nil, refuse(api.ErrArg)
	}
	var all []api.Effect
	for _, q := range sorted(it.links, pid.compare) {
		all = append(all, t.endLink(it, q, reason))
	}
	for _, w := range sorted(it.watchers, watch.compare) {
		if w.who != it.self {
			all = append(all, t.endWatch(it, w, reason))
		}
	}
	for _, by := range sorted(it.monitors, ref.compare) {
		all = append(all, t.demonitor(it, by)...)
	}
	delete(t.living, it.self)
	return all, nil
}

// endLink tells a process that one that it is linked with has ended.
func (t *Table) endLink(it *process, q pid, reason api.Term) api.Effect {
	partner := t.living[q]
	if partner == nil {
		return exitSignal(it.self, q, reason)
	}
	delete(partner.links, it.self)
	return exit(q, it.self, reason)
}

// endWatch tells a process that whom it watches has ended.
func (t *Table) endWatch(it *process, w watch, reason api.Term) api.Effect {
	watcher := t.living[w.who]
	if watcher == nil {
		return endSignal(it.watchers[w], w, reason)
	}
	delete(watcher.monitors, w.by)
	return down(w.who, w.by, it.watchers[w], reason)
}
