package compile

import "heddle/api"

// function is one whose code is being made. Its locals are the arguments, behind them the slots of names, and behind these the spare ones.
type function struct {
	*program
	fun    api.Fun
	spares int // the first spare local
}

// What stands in the spare locals. Between where one is set and where it is loaded for the last time stand patterns and guards alone, which set none: so one of each is enough for all phrases.
const (
	heldValue  = iota // what is held against patterns
	heldClass         // the class with which it was raised
	heldTime          // how long a receive waits
	heldByTime        // and from it on: the names that its time binds
)

// function is the code of a function's node.
func (p *program) function(i int) api.Fun {
	n := p.nodes[i]
	arity, slots := int(n.Int), p.seen[i].Slot
	f := &function{program: p, spares: arity + slots}
	f.fun = api.Fun{Name: n.Text, Arity: arity, Locals: f.spares}
	f.clauses(n.Kids, f.holdArguments, &exit{last: true})
	f.constantly(symbol("function_clause"))
	f.put(api.CRaise, classNumber("error"))
	within(f.fun.Locals, api.MaxLocals)
	return f.fun
}

// put puts an instruction behind those that are there, and tells its number. What is no operand of it is 0.
func (f *function) put(op api.Op, operands ...int) int {
	var both [2]int
	copy(both[:], operands)
	at := f.here()
	f.fun.Code = append(f.fun.Code, api.Insn{Op: op, A: both[0], B: both[1]})
	within(len(f.fun.Code), api.MaxInsns)
	return at
}

// here is the number of the next instruction.
func (f *function) here() int { return len(f.fun.Code) }

// ahead puts an instruction that may go on at a place which is not known yet: what it tells, called where that place is, sets it.
func (f *function) ahead(op api.Op, operands ...int) func() {
	at := f.put(op, operands...)
	return func() {
		in := &f.fun.Code[at]
		switch op {
		case api.CIs, api.CParts:
			in.B = f.here()
		default:
			in.A = f.here()
		}
	}
}

// sized puts an instruction of so many terms.
func (f *function) sized(op api.Op, size int) {
	within(size, api.MaxSize)
	f.put(op, size)
}

func (f *function) constantly(c literal) { f.put(api.CConst, f.constant(c)) }

// name is a slot's local.
func (f *function) name(slot int) int { return f.fun.Arity + slot }

// spare is a spare local.
func (f *function) spare(n int) int {
	local := f.spares + n
	f.fun.Locals = max(f.fun.Locals, local+1)
	return local
}

func (f *function) load(local int) { f.put(api.CLoad, local) }

func (f *function) store(local int) { f.put(api.CStore, local) }

// exit is where a phrase of several ways is left: last: each way has ended the frame, for its value is the function's; else they meet behind the phrase.
type exit struct {
	last bool
	ways []func()
}

// leave ends a way of a phrase.
func (f *function) leave(e *exit) {
	if !e.last {
		e.ways = append(e.ways, f.ahead(api.CJump))
	}
}

// meet is where the ways that were left go on.
func (e *exit) meet() {
	for _, set := range e.ways {
		set()
	}
}

// ladder is how a clause is left whose pattern does not fit: from the rung n on n terms are taken away, which it has left on the stack.
type ladder struct{ rungs [][]func() }

// from lets a way begin at a rung.
func (l *ladder) from(rung int, set func()) {
	for len(l.rungs) <= rung {
		l.rungs = append(l.rungs, nil)
	}
	l.rungs[rung] = append(l.rungs[rung], set)
}

// descend puts the rungs, from the uppermost down; behind them it goes on as if nothing had been held against the pattern.
func (f *function) descend(l *ladder) {
	for rung := len(l.rungs) - 1; rung >= 0; rung-- {
		for _, set := range l.rungs[rung] {
			set()
		}
		if rung > 0 {
			f.put(api.CPop)
		}
	}
}
