package compile

import "heddle/api"

// body makes the code of phrases, one behind the other, of which the last one's value counts.
func (f *function) body(i int, last bool) {
	kids := f.nodes[i].Kids
	ahead, final := kids[:len(kids)-1], kids[len(kids)-1]
	for _, kid := range ahead {
		f.evaluate(kid, false)
		f.put(api.CPop)
	}
	f.evaluate(final, last)
}

// values makes the code that puts the values of phrases, the first one lowest.
func (f *function) values(phrases []int) {
	for _, i := range phrases {
		f.evaluate(i, false)
	}
}

// evaluate makes the code that puts a phrase's value on the stack; last: that ends the frame with it, for nothing is left to do behind it.
func (f *function) evaluate(i int, last bool) {
	n := f.nodes[i]
	switch n.Kind {
	case api.EBegin:
		f.body(n.Kids[0], last)
	case api.ECase:
		f.choice(n, last)
	case api.ETry:
		f.attempt(n, last)
	case api.EReceive:
		f.receive(n, last)
	case api.EAndAlso:
		fallthrough
	case api.EOrElse:
		f.either(n, last)
	case api.ECall:
		f.call(i, last)
	default:
		f.plain(i)
		f.answer(last)
	}
}

// answer ends the frame with the uppermost term, if nothing is left to do.
func (f *function) answer(last bool) {
	if last {
		f.put(api.CReturn)
	}
}

// plain makes the code of a phrase of one way, behind which the function never ends by itself.
func (f *function) plain(i int) {
	n := f.nodes[i]
	switch n.Kind {
	case api.EVar:
		f.load(f.name(f.seen[i].Slot))
	case api.ETuple:
		f.values(n.Kids)
		f.sized(api.CTuple, len(n.Kids))
	case api.EList:
		f.values(n.Kids)
		f.sized(api.CList, len(n.Kids)-1)
	case api.EMatch:
		f.match(n)
	case api.ESend:
		f.values(n.Kids)
		f.put(api.CSend)
	case api.EUnary:
		fallthrough
	case api.EBinary:
		f.values(n.Kids)
		f.put(api.CBif, f.terms[signature{n.Text, len(n.Kids)}])
	default:
		f.constantly(f.literal(i))
	}
}

// match makes the code of a pattern that is held against a value, which is its own value, too. As of a clause, the pattern is the first Kid.
func (f *function) match(n api.Node) {
	f.evaluate(n.Kids[1], false)
	f.store(f.spare(heldValue))
	out, e := &ladder{}, &exit{}
	f.holdValue(n, out)
	f.load(f.spare(heldValue))
	f.leave(e)
	f.descend(out)
	f.refuse("badmatch")
	e.meet()
}

func (f *function) choice(n api.Node, last bool) {
	f.evaluate(n.Kids[0], false)
	f.store(f.spare(heldValue))
	e := &exit{last: last}
	f.clauses(n.Kids[1:], f.holdValue, e)
	f.refuse("case_clause")
	e.meet()
}

// refuse raises that no pattern fits the value that was held against them.
func (f *function) refuse(why string) {
	f.constantly(symbol(why))
	f.load(f.spare(heldValue))
	f.put(api.CTuple, 2)
	f.put(api.CRaise, classNumber("error"))
}

func (f *function) attempt(n api.Node, last bool) {
	e := &exit{last: last}
	raised := f.ahead(api.CTry)
	f.body(n.Kids[0], false)
	f.put(api.CDone)
	f.answer(last)
	f.leave(e)
	raised()
	f.store(f.spare(heldClass))
	f.store(f.spare(heldValue))
	f.clauses(n.Kids[1:], f.holdRaised, e)
	f.raiseAgain()
	e.meet()
}

// raiseAgain raises what no clause of a try has taken: an instruction raises one class alone, so that each has its own.
func (f *function) raiseAgain() {
	for _, class := range [...]string{"error", "exit"} {
		f.load(f.spare(heldClass))
		other := f.ahead(api.CIs, f.constant(symbol(class)))
		f.load(f.spare(heldValue))
		f.put(api.CRaise, classNumber(class))
		other()
	}
	f.load(f.spare(heldValue))
	f.put(api.CRaise, classNumber("throw"))
}

func classNumber(class string) int {
	switch class {
	case "error":
		return 0
	case "exit":
		return 1
	}
	return 2
}

// either makes the code of an andalso or orelse: the left value decides, or the right one's is the whole's.
func (f *function) either(n api.Node, last bool) {
	e := &exit{last: last}
	decided := func(value string) {
		f.constantly(symbol(value))
		f.answer(last)
	}
	f.evaluate(n.Kids[0], false)
	isFalse := f.ahead(api.CBranch, 0, 1)
	if n.Kind == api.EAndAlso {
		f.evaluate(n.Kids[1], last)
		f.leave(e)
		isFalse()
		decided("false")
	} else {
		decided("true")
		f.leave(e)
		isFalse()
		f.evaluate(n.Kids[1], last)
	}
	e.meet()
}

func (f *function) call(i int, last bool) {
	n, called := f.nodes[i], f.seen[i]
	f.values(n.Kids)
	switch called.Role {
	case api.RLocal:
		f.enter(last, api.CCall, api.CTail, f.numbers[called.Slot])
	case api.RRemote:
		callee := literal{kind: api.KTuple, mod: n.Mod, text: n.Text}
		f.enter(last, api.CRemote, api.CLeave, f.constant(callee), len(n.Kids))
	default: // RBif
		f.builtIn(f.builtIns[called.Slot])
		f.answer(last)
	}
}

// enter puts a call: one that comes back, or one that ends the frame.
func (f *function) enter(last bool, comesBack, ends api.Op, operands ...int) {
	op := comesBack
	if last {
		op = ends
	}
	f.put(op, operands...)
}

func (f *function) builtIn(b api.Bif) {
	name := signature{b.Name, b.Arity}
	switch b.Kind {
	case api.BTerm:
		f.put(api.CBif, f.terms[name])
	case api.BRaise:
		f.put(api.CRaise, classNumber(b.Name))
	case api.BKnown:
		fallthrough
	case api.BAct:
		f.put(api.CAct, f.acts[name])
	}
}
