package compile_test

import (
	"slices"

	"heddle/api"
	"heddle/bif"
	"heddle/code"
	"heddle/sample"
	"heddle/term"
)

// machine runs code, as chapters 15 and 18 say.
type machine struct {
	*outside
	api.Code
	bifs, acts []api.Bif
	frames     []*frame
	handlers   []handler
	deepest    int // how many frames it had at most
}

// frame is a call that has not come back.
type frame struct {
	mod, fun, at  int
	locals, stack []api.Term
}

type handler struct {
	frame, at, height int
	guards            bool
}

// byCode is a process of a program's code that calls an exported function.
func byCode(c api.Code, mod, fun string, args []api.Term) func(o *outside) api.Term {
	return func(o *outside) api.Term { return newMachine(c, o).run(mod, fun, args) }
}

func newMachine(c api.Code, o *outside) *machine {
	return &machine{outside: o, Code: c, bifs: bif.All(), acts: code.Acts()}
}

// run is the reason with which a process ends.
func (m *machine) run(mod, fun string, args []api.Term) api.Term {
	at := m.exported(mod, fun, len(args))
	if at == nil {
		return word("undef")
	}
	m.enter(at, args)
	for len(m.frames) > 0 {
		if r := m.step(); r != nil && !m.caught(*r) {
			return r.end()
		}
	}
	return word("normal")
}

// exported is a new frame for a function that a module exports.
func (m *machine) exported(mod, fun string, arity int) *frame {
	for i, x := range m.Mods {
		for _, k := range x.Exports {
			if f := x.Funs[k]; x.Name == mod && f.Name == fun && f.Arity == arity {
				return &frame{mod: i, fun: k}
			}
		}
	}
	return nil
}

func (m *machine) enter(f *frame, args []api.Term) {
	f.locals = make([]api.Term, m.Mods[f.mod].Funs[f.fun].Locals)
	copy(f.locals, args)
	m.frames = append(m.frames, f)
	m.deepest = max(m.deepest, len(m.frames))
}

func (m *machine) top() *frame { return m.frames[len(m.frames)-1] }

// caught: was there a handler?
func (m *machine) caught(r raised) bool {
	if len(m.handlers) == 0 {
		return false
	}
	h := m.handlers[len(m.handlers)-1]
	m.handlers = m.handlers[:len(m.handlers)-1]
	m.frames = m.frames[:h.frame+1]
	f := m.top()
	f.at, f.stack = h.at, f.stack[:h.height]
	if !h.guards {
		f.push(r.reason, word(r.class))
	}
	return true
}

func (f *frame) push(terms ...api.Term) { f.stack = append(f.stack, terms...) }

// pull takes so many terms away, the first of them lowest.
func (f *frame) pull(n int) []api.Term {
	height := len(f.stack) - n
	terms := slices.Clone(f.stack[height:])
	f.stack = f.stack[:height]
	return terms
}

func (f *frame) pop() api.Term { return f.pull(1)[0] }

// isCounted tells which instructions are, by chapter 18; CWait never is.
func isCounted(in api.Insn, at int) bool {
	switch in.Op {
	case api.CCall, api.CTail, api.CRemote, api.CLeave, api.CSend, api.CAct:
		return true
	case api.CJump, api.CBranch, api.CCons, api.CSame, api.CPeek, api.CNext, api.CTry, api.CGuard:
		return in.A <= at
	case api.CIs, api.CParts:
		return in.B <= at
	}
	return false
}

// step does one instruction.
func (m *machine) step() *raised {
	f := m.top()
	in := m.Mods[f.mod].Funs[f.fun].Code[f.at]
	if isCounted(in, f.at) {
		m.count()
	}
	f.at++
	switch in.Op {
	case api.CConst, api.CLoad, api.CStore, api.CPop, api.CDup, api.CTuple, api.CList, api.CBif:
		return m.reckon(f, in)
	case api.CCall, api.CTail, api.CRemote, api.CLeave, api.CReturn, api.CSend, api.CAct:
		return m.call(f, in)
	case api.CPeek, api.CNext, api.CTake, api.CWait:
		return m.receive(f, in)
	}
	return m.branch(f, in)
}

func (m *machine) reckon(f *frame, in api.Insn) *raised {
	switch in.Op {
	case api.CConst:
		f.push(m.Consts[in.A])
	case api.CLoad:
		if f.locals[in.A].Kind == 0 {
			panic("a local that is not set")
		}
		f.push(f.locals[in.A])
	case api.CStore:
		f.locals[in.A] = f.pop()
	case api.CPop:
		f.pop()
	case api.CDup:
		t := f.pop()
		f.push(t, t)
	case api.CTuple:
		return f.put(tuple(f.pull(in.A)...))
	case api.CList:
		parts := f.pull(in.A + 1)
		if tail := parts[in.A]; tail.Kind == api.KList {
			parts = append(parts[:in.A], tail.Args...)
		}
		return f.put(sample.List(parts...))
	case api.CBif:
		b := m.bifs[in.A]
		t, err := bif.Call(b.Name, f.pull(b.Arity)...)
		if err != nil {
			reason, _ := bif.Reason(err)
			return &raised{"error", reason}
		}
		f.push(t)
	}
	return nil
}

// put puts what is a term.
func (f *frame) put(t api.Term) *raised {
	if term.Check(t) != nil {
		return &raised{"error", word("system_limit")}
	}
	f.push(t)
	return nil
}

func (m *machine) call(f *frame, in api.Insn) *raised {
	var to *frame
	var args []api.Term
	ends := in.Op == api.CTail || in.Op == api.CLeave
	switch in.Op {
	case api.CReturn:
		t := f.pop()
		m.frames = m.frames[:len(m.frames)-1]
		if len(m.frames) > 0 {
			m.top().push(t)
		}
		return nil
	case api.CSend:
		return m.ask("!", f.pull(2))
	case api.CAct:
		act := m.acts[in.A]
		return m.ask(act.Name, f.pull(act.Arity))
	case api.CCall, api.CTail:
		to, args = &frame{mod: f.mod, fun: in.A}, f.pull(m.Mods[f.mod].Funs[in.A].Arity)
	default:
		name := m.Consts[in.A].Args
		to, args = m.exported(name[0].Text, name[1].Text, in.B), f.pull(in.B)
	}
	if to == nil {
		return &raised{"error", word("undef")}
	}
	if ends {
		m.frames = m.frames[:len(m.frames)-1]
	} else if len(m.frames) == api.MaxFrames {
		return &raised{"error", word("system_limit")}
	}
	m.enter(to, args)
	return nil
}

func (m *machine) ask(name string, args []api.Term) *raised {
	class, t := m.act(name, args)
	if class != "" {
		return &raised{class, t}
	}
	m.top().push(t)
	return nil
}

func (m *machine) receive(f *frame, in api.Insn) *raised {
	switch in.Op {
	case api.CPeek:
		t, there := m.box.peek()
		if !there {
			f.at = in.A
			return nil
		}
		f.push(t)
	case api.CNext:
		m.box.cursor = min(m.box.cursor+1, len(m.box.all))
		f.at = in.A
	case api.CTake:
		m.box.take()
	case api.CWait:
		waits, right := m.box.wait(m.clock, f.pop())
		if !right {
			return &raised{"error", word("timeout_value")}
		}
		for waits {
			m.wait()
			if _, there := m.box.peek(); there {
				f.at, waits = in.A, false
			} else if m.box.expire(m.clock) {
				waits = false
			}
		}
	}
	return nil
}

// branch does what only says where it goes on, and of handlers.
func (m *machine) branch(f *frame, in api.Insn) *raised {
	goesOn, to := true, in.A
	switch in.Op {
	case api.CJump:
		goesOn = false
	case api.CBranch:
		t := f.pop()
		goesOn = bif.True(t)
		if in.B == 1 && !goesOn && !sample.Same(t, word("false")) {
			return &raised{"error", word("badarg")}
		}
	case api.CIs:
		goesOn, to = term.Equal(m.Consts[in.A], f.pop()), in.B
	case api.CParts:
		t := f.pop()
		goesOn, to = t.Kind == api.KTuple && len(t.Args) == in.A, in.B
		if goesOn {
			parts := slices.Clone(t.Args)
			slices.Reverse(parts)
			f.push(parts...)
		}
	case api.CCons:
		var head, tail api.Term
		if head, tail, goesOn = term.Split(f.pop()); goesOn {
			f.push(tail, head)
		}
	case api.CSame:
		two := f.pull(2)
		goesOn = term.Equal(two[0], two[1])
	case api.CRaise:
		return &raised{[...]string{"error", "exit", "throw"}[in.A], f.pop()}
	case api.CTry, api.CGuard:
		m.handlers = append(m.handlers, handler{len(m.frames) - 1, in.A, len(f.stack), in.Op == api.CGuard})
	case api.CDone:
		m.handlers = m.handlers[:len(m.handlers)-1]
	}
	if !goesOn {
		f.at = to
	}
	return nil
}
