package compile

import "heddle/api"

// holder makes the code that holds a clause's pattern against what is given: it goes on where that fits, else out of the clause.
type holder func(clause api.Node, out *ladder)

// clauses makes the code of clauses, the first that fits of which is taken; ahead of its body first is put. Behind them it goes on where none is taken.
func (f *function) clauses(clauses []int, hold holder, e *exit, first ...api.Op) {
	for _, i := range clauses {
		n := f.nodes[i]
		out := &ladder{}
		hold(n, out)
		guards, body := n.Kids[1:len(n.Kids)-1], n.Kids[len(n.Kids)-1]
		for _, guard := range guards {
			f.guard(guard, out)
		}
		for _, op := range first {
			f.put(op)
		}
		f.body(body, e.last)
		f.leave(e)
		f.descend(out)
	}
}

// holdArguments is of a function's clauses.
func (f *function) holdArguments(clause api.Node, out *ladder) {
	for argument, pattern := range f.nodes[clause.Kids[0]].Kids {
		f.load(argument)
		f.fit(pattern, 0, out)
	}
}

// holdRaised is of a try's clauses.
func (f *function) holdRaised(clause api.Node, out *ladder) {
	if clause.Text != "_" {
		f.load(f.spare(heldClass))
		out.from(0, f.ahead(api.CIs, f.constant(symbol(clause.Text))))
	}
	f.holdValue(clause, out)
}

// holdValue is of all others.
func (f *function) holdValue(clause api.Node, out *ladder) {
	f.load(f.spare(heldValue))
	f.fit(clause.Kids[0], 0, out)
}

// fit makes the code that takes the uppermost term away and holds a pattern against it. left is how many terms then wait on the stack for the patterns behind it.
func (f *function) fit(i, left int, out *ladder) {
	n := f.nodes[i]
	switch n.Kind {
	case api.EVar:
		f.fitVariable(f.seen[i], left, out)
	case api.ETuple:
		within(len(n.Kids), api.MaxSize)
		out.from(left, f.ahead(api.CParts, len(n.Kids)))
		for place, kid := range n.Kids {
			f.fit(kid, left+len(n.Kids)-place-1, out)
		}
	case api.EList:
		parts, tail := n.Kids[:len(n.Kids)-1], n.Kids[len(n.Kids)-1]
		for _, kid := range parts {
			out.from(left, f.ahead(api.CCons))
			f.fit(kid, left+1, out)
		}
		f.fit(tail, left, out)
	case api.EMatch:
		f.put(api.CDup)
		f.fit(n.Kids[0], left+1, out)
		f.fit(n.Kids[1], left, out)
	default:
		out.from(left, f.ahead(api.CIs, f.constant(f.literal(i))))
	}
}

func (f *function) fitVariable(variable api.Seen, left int, out *ladder) {
	switch variable.Role {
	case api.RBind:
		f.store(f.name(variable.Slot))
	case api.RTest:
		f.load(f.name(variable.Slot))
		out.from(left, f.ahead(api.CSame))
	default: // RAny
		f.put(api.CPop)
	}
}

// guard makes the code that goes on where a guard holds, else out of the clause.
func (f *function) guard(i int, out *ladder) {
	holds := &exit{}
	for _, row := range f.nodes[i].Kids {
		raises := f.ahead(api.CGuard)
		fails := &exit{}
		for _, test := range f.nodes[row].Kids {
			f.evaluate(test, false)
			fails.ways = append(fails.ways, f.ahead(api.CBranch, 0, 0))
		}
		f.put(api.CDone)
		f.leave(holds)
		fails.meet()
		// Where a test raises, its handler is gone already.
		f.put(api.CDone)
		raises()
	}
	out.from(0, f.ahead(api.CJump))
	holds.meet()
}
