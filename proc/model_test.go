package proc_test

import (
	"cmp"
	"errors"
	"slices"

	"heddle/api"
	"heddle/atom"
	"heddle/sample"
	"heddle/term"
	"heddle/vm"
)

// model is the chapter told once more, plainly: everybody who ever was, with all that is to be said of him.
type model struct {
	souls   []*soul // the place is the id, less one
	ended   []*soul // as they ended
	tickets int
	now     int
}

type soul struct {
	pid    api.Term
	v      *vm.VM
	gone   bool
	reason api.Term // with which it is gone
	ticket int      // whoever has the lowest one is the first of the queue; 0: it is in none
	until  int      // till when it waits; -1: without end
	traps  bool
	name   string
}

// chainOf is the chain of faults of a layer below, under one of this one.
func chainOf(err error, at func(place int) int) []api.Fault {
	var chain []api.Fault
	for {
		var f *api.Fault
		if !errors.As(err, &f) {
			break
		}
		chain = append(chain, api.Fault{Layer: f.Layer, At: f.At, Code: f.Code})
		err = f.Under
	}
	if chain == nil {
		return nil
	}
	return sample.Under("proc", at(chain[0].At), chain)
}

func nought(int) int { return 0 }

func same(place int) int { return place }

func (m *model) lives() []*soul {
	return slices.DeleteFunc(slices.Clone(m.souls), func(s *soul) bool { return s.gone })
}

func (m *model) queue() []*soul {
	all := slices.DeleteFunc(m.lives(), func(s *soul) bool { return s.ticket == 0 })
	slices.SortFunc(all, func(a, b *soul) int { return cmp.Compare(a.ticket, b.ticket) })
	return all
}

func (m *model) behind(s *soul) {
	m.tickets++
	s.ticket = m.tickets
}

// who is the living process of a pid.
func (m *model) who(p api.Term) *soul {
	for _, s := range m.souls {
		if !s.gone && sample.Same(s.pid, p) {
			return s
		}
	}
	return nil
}

func (m *model) owner(name string) *soul {
	for _, s := range m.lives() {
		if s.name == name && name != "" {
			return s
		}
	}
	return nil
}

func (s *soul) does(state api.VMState) bool { return s.v.State().State == state }

func (m *model) ends(s *soul, reason api.Term) {
	s.gone, s.reason, s.ticket = true, term.Copy(reason), 0
	m.ended = append(m.ended, s)
}

// do is what a call comes to: what it tells, or the chain of its faults.
func (m *model) do(s step) (answer, []api.Fault) {
	switch s.call {
	case "spawn":
		return m.spawn(s)
	case "wake":
		return m.wake(s.now)
	case "run":
		return m.run(s.budget, s.now)
	case "turn":
		queue := m.queue()
		if len(queue) == 0 {
			return answer{}, []api.Fault{fault(api.ErrNone)}
		}
		m.behind(queue[0])
		return answer{}, nil
	case "unregister":
		owner := m.owner(s.word)
		if owner == nil {
			return answer{}, []api.Fault{fault(api.ErrNamed)}
		}
		owner.name = ""
		return answer{}, nil
	}
	it := m.who(s.p)
	if it == nil && s.call == "put" {
		return answer{}, nil
	}
	if it == nil {
		return answer{}, []api.Fault{fault(api.ErrProc)}
	}
	switch s.call {
	case "park":
		if !it.does(api.Asked) {
			return answer{}, []api.Fault{fault(api.ErrAsked)}
		}
		it.ticket = 0
		return answer{}, nil
	case "answer":
		return m.goesOn(it, it.v.Resume(s.x))
	case "fail":
		return m.goesOn(it, it.v.Raise(s.word, s.x))
	case "put":
		if chain := chainOf(term.Check(s.x), nought); chain != nil {
			return answer{}, chain
		}
		return answer{yes: m.message(it, s.x)}, nil
	case "exit":
		return m.exit(it, s)
	case "trap":
		before := it.traps
		it.traps = s.yes
		return answer{yes: before}, nil
	case "register":
		return m.register(it, s.word)
	}
	panic("no call: " + s.call)
}

func (m *model) spawn(s step) (answer, []api.Fault) {
	if len(m.lives()) >= 1024 {
		return answer{}, []api.Fault{fault(api.ErrMany)}
	}
	p := own(len(m.souls) + 1)
	v, err := vm.New(s.code, s.mod, s.fun, s.args, api.Who{Self: p, Node: "n@h"})
	if chain := chainOf(err, same); chain != nil {
		return answer{}, chain
	}
	it := &soul{pid: p, v: v, until: -1}
	m.souls = append(m.souls, it)
	m.behind(it)
	return answer{pid: p}, nil
}

func (m *model) mayBe(now int) []api.Fault {
	if now < 0 || now > 1<<40 || now < m.now {
		return []api.Fault{fault(api.ErrRange)}
	}
	return nil
}

func (m *model) wake(now int) (answer, []api.Fault) {
	if chain := m.mayBe(now); chain != nil {
		return answer{}, chain
	}
	m.now = now
	// From one time to the next one, and of each time by the ids.
	a := answer{}
	for {
		var next *soul
		for _, s := range m.lives() {
			if s.ticket == 0 && s.does(api.Waiting) && s.until >= 0 && s.until <= now && (next == nil || s.until < next.until) {
				next = s
			}
		}
		if next == nil {
			return a, nil
		}
		m.behind(next)
		a.n++
	}
}

func (m *model) run(budget, now int) (answer, []api.Fault) {
	if chain := m.mayBe(now); chain != nil {
		return answer{}, chain
	}
	queue := m.queue()
	if len(queue) == 0 {
		return answer{}, []api.Fault{fault(api.ErrNone)}
	}
	it := queue[0]
	event, err := it.v.Run(budget, now)
	if chain := chainOf(err, nought); chain != nil {
		return answer{}, chain
	}
	m.now = now
	switch event.Kind {
	case api.EvYield:
		m.behind(it)
	case api.EvWait:
		it.ticket, it.until = 0, -1
		if event.Timed {
			it.until = event.Until
		}
	case api.EvEnd:
		m.ends(it, event.Reason)
	}
	return answer{pid: it.pid, event: event}, nil
}

func (m *model) goesOn(it *soul, err error) (answer, []api.Fault) {
	chain := chainOf(err, nought)
	if chain == nil && it.ticket == 0 {
		m.behind(it)
	}
	return answer{}, chain
}

func (m *model) message(it *soul, x api.Term) bool {
	if len(it.v.Messages()) >= 4096 {
		return false
	}
	if err := it.v.Put(x); err != nil {
		panic(err)
	}
	if it.does(api.Waiting) && it.ticket == 0 {
		m.behind(it)
	}
	return true
}

func (m *model) exit(it *soul, s step) (answer, []api.Fault) {
	for _, x := range []api.Term{s.from, s.x} {
		if chain := chainOf(term.Check(x), nought); chain != nil {
			return answer{}, chain
		}
	}
	if s.from.Kind != api.KPid {
		return answer{}, []api.Fault{fault(api.ErrArg)}
	}
	kind, _ := exitWants(show(s.x), sample.Same(s.from, it.pid), it.traps, s.yes)
	switch {
	case kind == api.ExitMessage:
		x := tuple(word("EXIT"), s.from, s.x)
		if term.Check(x) != nil {
			x = tuple(word("EXIT"), s.from, word("system_limit"))
		}
		m.message(it, x)
	case kind == api.ExitEnded && !s.yes && sample.Same(s.x, word("kill")):
		m.ends(it, word("killed"))
	case kind == api.ExitEnded:
		m.ends(it, s.x)
	}
	return answer{exit: kind}, nil
}

func (m *model) register(it *soul, name string) (answer, []api.Fault) {
	if name == "" || name == "undefined" || !atom.Valid(name) {
		return answer{}, []api.Fault{fault(api.ErrArg)}
	}
	if it.name != "" || m.owner(name) != nil {
		return answer{}, []api.Fault{fault(api.ErrNamed)}
	}
	it.name = name
	return answer{}, nil
}

// What is to be seen of the model.

func pidsOf(souls []*soul) []api.Term {
	var all []api.Term
	for _, s := range souls {
		all = append(all, term.Copy(s.pid))
	}
	return all
}

func (m *model) Living() []api.Term { return pidsOf(m.lives()) }

func (m *model) Queue() []api.Term { return pidsOf(m.queue()) }

func (m *model) Ended() []api.Dead {
	var all []api.Dead
	for _, s := range m.ended[max(0, len(m.ended)-4096):] {
		all = append(all, api.Dead{Pid: term.Copy(s.pid), Reason: term.Copy(s.reason)})
	}
	return all
}

func (m *model) Messages(p api.Term) []api.Term {
	if s := m.who(p); s != nil {
		return s.v.Messages()
	}
	return nil
}

func (m *model) State(p api.Term) (api.Process, bool) {
	if s := m.who(p); s != nil {
		return s.v.State(), true
	}
	return api.Process{}, false
}

func (m *model) Traps(p api.Term) bool {
	s := m.who(p)
	return s != nil && s.traps
}

func (m *model) Name(p api.Term) (string, bool) {
	if s := m.who(p); s != nil {
		return s.name, s.name != ""
	}
	return "", false
}

func (m *model) Whereis(name string) (api.Term, bool) {
	if s := m.owner(name); s != nil {
		return term.Copy(s.pid), true
	}
	return api.Term{}, false
}
