package proc

import (
	"cmp"
	"slices"

	"heddle/api"
)

// checkTime refuses a time that may not be: the clock goes on alone.
func (t *Table) checkTime(now int) error {
	switch {
	case !t.made():
		return refuse(api.ErrZero)
	case now < t.now || now > api.MaxClock:
		return refuse(api.ErrRange)
	}
	return nil
}

// enqueue puts a process behind the queue, if it is in none.
func (t *Table) enqueue(id uint32) {
	t.queue.join(id)
	t.sleepers.drop(id)
}

// Wake puts those whose time has come behind the queue, and tells how many they are.
func (t *Table) Wake(now int) (int, error) {
	if err := t.checkTime(now); err != nil {
		return 0, err
	}
	t.now = now
	due := slices.DeleteFunc(t.sleepers.keys(), func(id uint32) bool { return t.sleepers[id] > now })
	slices.SortStableFunc(due, func(a, b uint32) int { return cmp.Compare(t.sleepers[a], t.sleepers[b]) })
	for _, id := range due {
		t.enqueue(id)
	}
	return len(due), nil
}

// Run runs the first of the queue, to its next event.
func (t *Table) Run(budget, now int) (api.Term, api.Event, error) {
	if err := t.checkTime(now); err != nil {
		return api.Term{}, api.Event{}, err
	}
	if len(t.queue) == 0 {
		return api.Term{}, api.Event{}, refuse(api.ErrNone)
	}
	it := t.living[t.queue[0]]
	event, err := it.vm.Run(budget, now)
	if fault := faultOf(err); fault != nil {
		return api.Term{}, api.Event{}, wrap(0, fault)
	}
	t.now = now
	t.settle(it, event)
	return t.pid(it.id), event, nil
}

// settle says where the first of the queue stands behind its event.
func (t *Table) settle(it *process, event api.Event) {
	switch event.Kind {
	case api.EvYield:
		t.queue.turn()
	case api.EvWait:
		t.queue.leave(it.id)
		if event.Timed {
			t.sleepers[it.id] = event.Until
		}
	case api.EvEnd:
		t.end(it, event.Reason)
	}
}

// Turn puts the first of the queue behind it.
func (t *Table) Turn() error {
	switch {
	case !t.made():
		return refuse(api.ErrZero)
	case len(t.queue) == 0:
		return refuse(api.ErrNone)
	}
	t.queue.turn()
	return nil
}

// Park takes a process that asked out of the queue, till it is answered.
func (t *Table) Park(p api.Term) error {
	it, err := t.acting(p)
	if err != nil {
		return err
	}
	if it.vm.State().State != api.Asked {
		return refuse(api.ErrAsked)
	}
	t.queue.leave(it.id)
	return nil
}

// Answer answers a process that asked.
func (t *Table) Answer(p api.Term, x api.Term) error {
	it, err := t.acting(p)
	if err != nil {
		return err
	}
	return t.goOn(it, it.vm.Resume(x))
}

// Fail raises in the place of an answer.
func (t *Table) Fail(p api.Term, class string, reason api.Term) error {
	it, err := t.acting(p)
	if err != nil {
		return err
	}
	return t.goOn(it, it.vm.Raise(class, reason))
}

// goOn lets a process run that is answered, unless the answer was refused.
func (t *Table) goOn(it *process, err error) error {
	if fault := faultOf(err); fault != nil {
		return wrap(0, fault)
	}
	t.enqueue(it.id)
	return nil
}
