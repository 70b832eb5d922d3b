package vm_test

import (
	"errors"
	"slices"

	"heddle/api"
	"heddle/bif"
	"heddle/code"
	"heddle/sample"
	"heddle/term"
)

// model is a process told once more: a list of calls, each with cells of which the lowest ones are its stack.
type model struct {
	c         api.Code
	who       api.Who
	calls     []*activation
	traps     []trap
	state     api.VMState
	last, sum int
	left      int // of the budget
	letters   []api.Term
	cursor    int
	until     int // -1: no deadline
	pending   *fall
	met       map[api.Op]int // how often each Op was done
}

type activation struct {
	mod, fun, at int
	names        []api.Term
	cells        []api.Term
	height       int
}

// trap is a handler: of the call at that place.
type trap struct {
	call, at, height int
	silent           bool
}

// fall is what is raised.
type fall struct {
	class  string
	reason api.Term
}

func failing(reason string) *fall { return &fall{"error", word(reason)} }

func refusing(code api.Errno) []api.Fault { return []api.Fault{fault(0, code)} }

// chainOf is an error's faults, the outermost one ahead.
func chainOf(err error) []api.Fault {
	var f *api.Fault
	if !errors.As(err, &f) {
		return nil
	}
	return append([]api.Fault{{Layer: f.Layer, At: f.At, Code: f.Code}}, chainOf(f.Under)...)
}

// modelOf is a process of code that is well formed.
func modelOf(c api.Code, mod, fun string, args []api.Term, who api.Who) *model {
	m := &model{c: c, who: who, state: api.Ready, until: -1, met: map[api.Op]int{}}
	if i, k := m.find(mod, fun, len(args)); k >= 0 {
		m.begin(i, k, args)
	} else {
		m.pending = failing("undef")
	}
	return m
}

func (m *model) find(mod, fun string, arity int) (int, int) {
	for i, x := range m.c.Mods {
		for k, f := range x.Funs {
			if x.Name == mod && f.Name == fun && f.Arity == arity && slices.Contains(x.Exports, k) {
				return i, k
			}
		}
	}
	return -1, -1
}

func (m *model) begin(mod, fun int, args []api.Term) {
	names := make([]api.Term, m.c.Mods[mod].Funs[fun].Locals)
	copy(names, args)
	m.calls = append(m.calls, &activation{mod: mod, fun: fun, names: names})
}

func (m *model) view() view {
	return view{api.Process{State: m.state, Calls: m.sum, Frames: len(m.calls), Messages: len(m.letters)}, m.letters}
}

func (m *model) put(x api.Term) []api.Fault {
	why := chainOf(term.Check(x))
	switch {
	case m.state == api.Ended:
		return refusing(api.ErrEnd)
	case why != nil:
		return under(0, append([]api.Fault{{Layer: "mail", Code: why[0].Code}}, why...))
	case len(m.letters) == 4096:
		return under(0, []api.Fault{{Layer: "mail", Code: api.ErrMany}})
	}
	m.letters = append(slices.Clone(m.letters), x)
	return nil
}

// answer is Resume where the class is resume, else Raise.
func (m *model) answer(class string, x api.Term) []api.Fault {
	why := chainOf(term.Check(x))
	switch {
	case m.state != api.Asked:
		return refusing(api.ErrAsked)
	case !slices.Contains([]string{"resume", "error", "exit", "throw"}, class):
		return refusing(api.ErrArg)
	case why != nil:
		return under(0, why)
	}
	m.state = api.Ready
	if class == "resume" {
		m.calls[len(m.calls)-1].put(x)
	} else {
		m.pending = &fall{class, x}
	}
	return nil
}

func (m *model) run(budget, now int) (api.Event, []api.Fault) {
	switch {
	case budget < 1 || budget > 1<<20:
		return api.Event{}, refusing(api.ErrArg)
	case now < 0 || now > 1<<40 || now < m.last:
		return api.Event{}, refusing(api.ErrRange)
	case m.state == api.Ended:
		return api.Event{}, refusing(api.ErrEnd)
	case m.state == api.Asked:
		return api.Event{}, refusing(api.ErrAsked)
	}
	m.last, m.left = now, budget
	e := m.toEvent()
	e.Used = budget - m.left
	m.sum += e.Used
	return *e, nil
}

func (m *model) toEvent() *api.Event {
	if m.state == api.Waiting && !m.wakes() {
		return m.waits()
	}
	m.state = api.Ready
	for {
		if f := m.pending; f != nil {
			m.pending = nil
			if e := m.falls(*f); e != nil {
				return e
			}
		}
		a := m.calls[len(m.calls)-1]
		in := m.c.Mods[a.mod].Funs[a.fun].Code[a.at]
		if goes := m.counted(in, a.at); goes && m.left == 0 {
			return &api.Event{Kind: api.EvYield}
		} else if goes {
			m.left--
		}
		m.met[in.Op]++
		a.at++
		var e *api.Event
		if e, m.pending = m.does(a, in); e != nil {
			return e
		}
	}
}

// counted: what calls or asks, and what may go to a place that is not behind it.
func (m *model) counted(in api.Insn, at int) bool {
	if slices.Contains([]api.Op{api.CCall, api.CTail, api.CRemote, api.CLeave, api.CSend, api.CAct}, in.Op) {
		return true
	}
	if slices.Contains([]api.Op{api.CIs, api.CParts}, in.Op) {
		return in.B <= at
	}
	return slices.Contains([]api.Op{api.CJump, api.CBranch, api.CCons, api.CSame, api.CPeek, api.CNext, api.CTry, api.CGuard}, in.Op) && in.A <= at
}

// falls goes on at the last trap; the event, if there is none.
func (m *model) falls(f fall) *api.Event {
	n := len(m.traps) - 1
	if n < 0 {
		if f.class == "throw" {
			f.reason = tuple(word("nocatch"), f.reason)
			if term.Check(f.reason) != nil {
				f.reason = word("system_limit")
			}
		}
		return m.ends(f.reason)
	}
	x := m.traps[n]
	m.traps, m.calls = m.traps[:n], m.calls[:x.call+1]
	a := m.calls[x.call]
	a.at, a.height = x.at, x.height
	if !x.silent {
		a.put(f.reason)
		a.put(word(f.class))
	}
	return nil
}

func (m *model) ends(reason api.Term) *api.Event {
	m.calls, m.state = nil, api.Ended
	return &api.Event{Kind: api.EvEnd, Reason: reason}
}

// wakes: has that come for which it waits? Then it goes on.
func (m *model) wakes() bool {
	a := m.calls[len(m.calls)-1]
	if m.cursor < len(m.letters) {
		a.at = m.c.Mods[a.mod].Funs[a.fun].Code[a.at-1].A
		return true
	}
	if m.until < 0 || m.until > m.last {
		return false
	}
	m.cursor, m.until = 0, -1
	return true
}

func (m *model) waits() *api.Event {
	m.state = api.Waiting
	if m.until < 0 {
		return &api.Event{Kind: api.EvWait}
	}
	return &api.Event{Kind: api.EvWait, Until: m.until, Timed: true}
}

func (m *model) asks(name string, args []api.Term) *api.Event {
	m.state = api.Asked
	return &api.Event{Kind: api.EvAct, Name: name, Args: args}
}

func (a *activation) put(x api.Term) {
	if a.height == len(a.cells) {
		a.cells = append(a.cells, x)
	}
	a.cells[a.height] = x
	a.height++
}

func (a *activation) get() api.Term {
	a.height--
	return a.cells[a.height]
}

// several takes terms away, the first of them lowest.
func (a *activation) several(n int) []api.Term {
	a.height -= n
	return slices.Clone(a.cells[a.height : a.height+n])
}

func (a *activation) putWhole(x api.Term) *fall {
	if term.Check(x) != nil {
		return failing("system_limit")
	}
	a.put(x)
	return nil
}

// does one instruction: the event that it is, or what it raises.
func (m *model) does(a *activation, in api.Insn) (*api.Event, *fall) {
	switch in.Op {
	case api.CConst:
		a.put(m.c.Consts[in.A])
	case api.CLoad:
		a.put(a.names[in.A])
	case api.CStore:
		a.names[in.A] = a.get()
	case api.CPop:
		a.get()
	case api.CDup:
		a.put(a.cells[a.height-1])
	case api.CTuple:
		return nil, a.putWhole(tuple(a.several(in.A)...))
	case api.CList:
		all := a.several(in.A + 1)
		if all[in.A].Kind == api.KList {
			all = append(all[:in.A], all[in.A].Args...)
		}
		return nil, a.putWhole(list(all...))
	case api.CBif:
		b := bif.All()[in.A]
		x, err := bif.Call(b.Name, a.several(b.Arity)...)
		if err != nil {
			reason, _ := bif.Reason(err)
			return nil, &fall{"error", reason}
		}
		a.put(x)
	case api.CSend:
		return m.asks("!", a.several(2)), nil
	case api.CAct:
		return m.act(a, code.Acts()[in.A]), nil
	case api.CRaise:
		return nil, &fall{[]string{"error", "exit", "throw"}[in.A], a.get()}
	case api.CTry, api.CGuard:
		m.traps = append(m.traps, trap{len(m.calls) - 1, in.A, a.height, in.Op == api.CGuard})
	case api.CDone:
		m.traps = m.traps[:len(m.traps)-1]
	case api.CCall, api.CTail, api.CRemote, api.CLeave:
		return nil, m.goes(a, in)
	case api.CReturn:
		m.calls = m.calls[:len(m.calls)-1]
		if len(m.calls) == 0 {
			return m.ends(word("normal")), nil
		}
		m.calls[len(m.calls)-1].put(a.get())
	case api.CPeek, api.CNext, api.CTake, api.CWait:
		return m.receives(a, in)
	default:
		return nil, m.chooses(a, in)
	}
	return nil, nil
}

func (m *model) act(a *activation, b api.Bif) *api.Event {
	args := a.several(b.Arity)
	if b.Name == "self" {
		a.put(m.who.Self)
		return nil
	}
	if b.Name == "node" {
		a.put(word(m.who.Node))
		return nil
	}
	return m.asks(b.Name, args)
}

// goes to another function.
func (m *model) goes(a *activation, in api.Insn) *fall {
	mod, fun := a.mod, in.A
	if in.Op == api.CRemote || in.Op == api.CLeave {
		pair := m.c.Consts[in.A].Args
		if mod, fun = m.find(pair[0].Text, pair[1].Text, in.B); fun < 0 {
			return failing("undef")
		}
	}
	if in.Op == api.CTail || in.Op == api.CLeave {
		m.calls = m.calls[:len(m.calls)-1]
	} else if len(m.calls) == 16384 {
		return failing("system_limit")
	}
	m.begin(mod, fun, a.several(m.c.Mods[mod].Funs[fun].Arity))
	return nil
}

// chooses where to go on.
func (m *model) chooses(a *activation, in api.Insn) *fall {
	if in.Op == api.CJump {
		a.at = in.A
		return nil
	}
	b := a.get()
	stays, to := false, in.A
	switch in.Op {
	case api.CBranch:
		stays = sample.Same(b, word("true"))
		if in.B == 1 && !stays && !sample.Same(b, word("false")) {
			return failing("badarg")
		}
	case api.CIs:
		stays, to = sample.Same(b, m.c.Consts[in.A]), in.B
	case api.CSame:
		stays = sample.Same(a.get(), b)
	case api.CParts:
		stays, to = b.Kind == api.KTuple && len(b.Args) == in.A, in.B
		for i := range b.Args {
			if stays {
				a.put(b.Args[in.A-1-i])
			}
		}
	case api.CCons:
		head, tail, is := term.Split(b)
		if stays = is; is {
			a.put(tail)
			a.put(head)
		}
	}
	if !stays {
		a.at = to
	}
	return nil
}

func (m *model) receives(a *activation, in api.Insn) (*api.Event, *fall) {
	there := m.cursor < len(m.letters)
	switch {
	case in.Op == api.CPeek && there:
		a.put(m.letters[m.cursor])
	case in.Op == api.CPeek:
		a.at = in.A
	case in.Op == api.CNext:
		if a.at = in.A; there {
			m.cursor++
		}
	case in.Op == api.CTake:
		if there {
			m.letters = slices.Delete(slices.Clone(m.letters), m.cursor, m.cursor+1)
		}
		m.cursor, m.until = 0, -1
	case in.Op == api.CWait:
		return m.timed(a.get())
	}
	return nil, nil
}

// timed waits for so long, if that is a time.
func (m *model) timed(x api.Term) (*api.Event, *fall) {
	isTime := sample.Same(x, num(x.Int)) && x.Int >= 0 && x.Int <= 1<<40
	switch {
	case !isTime && !sample.Same(x, word("infinity")):
		return nil, failing("timeout_value")
	case isTime && x.Int == 0, m.until >= 0 && m.until <= m.last:
		m.cursor, m.until = 0, -1
		return nil, nil
	case isTime && m.until < 0:
		m.until = m.last + int(x.Int)
	}
	return m.waits(), nil
}
