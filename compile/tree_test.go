package compile_test

import (
	"testing"

	"heddle/api"
	"heddle/bif"
	"heddle/check"
	"heddle/match"
	"heddle/sample"
	"heddle/term"
)

// teller does what chapter 16 says of a tree, phrase by phrase; what is raised is a panic.
type teller struct {
	*outside
	t     testing.TB
	l     []api.Node
	root  int
	seen  []api.Seen
	rules *match.Rules
}

// names is what the names of a clause of a function are, by their slots.
type names struct{ env []api.Term }

// tellerOf is one of a right program, without anything outside.
func tellerOf(t testing.TB, l []api.Node, root int) *teller {
	t.Helper()
	seen, err := check.Check(l, root)
	if err != nil {
		t.Fatal(err)
	}
	rules, err := match.New(l, root)
	if err != nil {
		t.Fatal(err)
	}
	return &teller{nil, t, l, root, seen, rules}
}

// byTree is a process of a program that calls an exported function, straight from the tree.
func (w teller) byTree(mod, fun string, args []api.Term) func(o *outside) api.Term {
	return func(o *outside) api.Term {
		w.outside = o
		reason := word("normal")
		if r := w.caught(func() { w.apply(w.exported(mod, fun, len(args)), args) }); r != nil {
			reason = r.end()
		}
		return reason
	}
}

// caught does something: what it raises, if it raises.
func (w *teller) caught(do func()) (r *raised) {
	defer func() {
		switch end := recover().(type) {
		case nil:
		case raised:
			r = &end
		default:
			panic(end)
		}
	}()
	do()
	return nil
}

func fail(reason api.Term) { panic(raised{"error", orLimit(reason)}) }

// whole is a term; what is none raises.
func whole(t api.Term) api.Term {
	if term.Check(t) != nil {
		fail(word("system_limit"))
	}
	return t
}

// exported is the node of an exported function; -1: there is none.
func (w *teller) exported(mod, fun string, arity int) int {
	for _, m := range w.l[w.root].Kids {
		found, exports := -1, 0
		for _, i := range w.l[m].Kids {
			n := w.l[i]
			if w.l[m].Text != mod || n.Text != fun || n.Int != int64(arity) {
				continue
			}
			if n.Kind == api.NFunction {
				found = i
			} else {
				exports++
			}
		}
		if exports > 0 {
			return found
		}
	}
	return -1
}

// apply is the value of a function's first clause that fits.
func (w *teller) apply(function int, args []api.Term) api.Term {
	if function < 0 {
		fail(word("undef"))
	}
	for _, i := range w.l[function].Kids {
		clause := w.l[i]
		s, fits := &names{}, true
		for k, pattern := range w.l[clause.Kids[0]].Kids {
			fits = fits && w.fits(pattern, args[k], s)
		}
		if fits && w.enters(clause, s) {
			return w.body(clause, s)
		}
	}
	fail(word("function_clause"))
	return api.Term{}
}

// fits: does a pattern? What it binds is put to the names.
func (w *teller) fits(pattern int, t api.Term, s *names) bool {
	env, fits, err := w.rules.Match(pattern, t, s.env)
	if err != nil {
		w.t.Fatal(err)
	}
	if fits {
		s.env = env
	}
	return fits
}

// enters: does a clause's guard hold, if it has one? Chapter 14 says whether; what is counted is counted here.
func (w *teller) enters(clause api.Node, s *names) bool {
	if len(clause.Kids) < 3 {
		return true
	}
	holds := false
	for _, row := range w.l[clause.Kids[1]].Kids {
		if !holds {
			holds = w.holds(w.l[row].Kids, s)
		}
	}
	if known, err := w.rules.Guard(clause.Kids[1], s.env, who()); err != nil || known != holds {
		w.t.Errorf("a guard: %v, %v", known, err)
	}
	return holds
}

func (w *teller) holds(tests []int, s *names) bool {
	for _, i := range tests {
		is := false
		if r := w.caught(func() { is = bif.True(w.value(i, s)) }); r != nil || !is {
			return false
		}
	}
	return true
}

// body is the last value of a clause's body, or of another's, which is the last Kid.
func (w *teller) body(n api.Node, s *names) api.Term {
	all := w.values(w.l[n.Kids[len(n.Kids)-1]].Kids, s)
	return all[len(all)-1]
}

func (w *teller) values(phrases []int, s *names) []api.Term {
	var all []api.Term
	for _, i := range phrases {
		all = append(all, w.value(i, s))
	}
	return all
}

// first is the value of the first clause's body that fits a term, and whose guard holds; clauses of no such class are left out.
func (w *teller) first(clauses []int, class string, t api.Term, s *names, taken func()) (api.Term, bool) {
	for _, i := range clauses {
		clause, inner := w.l[i], &names{s.env}
		if class != "" && clause.Text != "_" && clause.Text != class {
			continue
		}
		if w.fits(clause.Kids[0], t, inner) && w.enters(clause, inner) {
			taken()
			s.env = inner.env
			return w.body(clause, s), true
		}
	}
	return api.Term{}, false
}

func (w *teller) value(i int, s *names) api.Term {
	n := w.l[i]
	switch n.Kind {
	case api.EInt:
		return num(n.Int)
	case api.EAtom:
		return word(n.Text)
	case api.ENil:
		return sample.Nil()
	case api.EVar:
		return s.env[w.seen[i].Slot]
	case api.ETuple:
		return whole(tuple(w.values(n.Kids, s)...))
	case api.EList:
		parts := w.values(n.Kids, s)
		if tail := parts[len(parts)-1]; tail.Kind == api.KList {
			parts = append(parts[:len(parts)-1], tail.Args...)
		}
		return whole(sample.List(parts...))
	case api.EMatch:
		t := w.value(n.Kids[1], s)
		if !w.fits(n.Kids[0], t, s) {
			fail(tuple(word("badmatch"), t))
		}
		return t
	case api.EUnary, api.EBinary:
		return w.built(n.Text, w.values(n.Kids, s))
	case api.EAndAlso:
		return w.unless("false", "true", n, s)
	case api.EOrElse:
		return w.unless("true", "false", n, s)
	case api.ESend:
		return w.ask("!", w.values(n.Kids, s))
	case api.ECall:
		return w.call(i, w.values(n.Kids, s))
	case api.EBegin:
		return w.body(n, s)
	}
	return w.great(n, s)
}

// great is the value of a phrase with clauses.
func (w *teller) great(n api.Node, s *names) api.Term {
	switch n.Kind {
	case api.ECase:
		t := w.value(n.Kids[0], s)
		value, found := w.first(n.Kids[1:], "", t, s, func() {})
		if !found {
			fail(tuple(word("case_clause"), t))
		}
		return value
	case api.ETry:
		var value api.Term
		r := w.caught(func() {
			all := w.values(w.l[n.Kids[0]].Kids, &names{s.env})
			value = all[len(all)-1]
		})
		if r == nil {
			return value
		}
		value, found := w.first(n.Kids[1:], r.class, r.reason, s, func() {})
		if !found {
			panic(*r)
		}
		return value
	}
	return w.receive(n, s)
}

func (w *teller) receive(n api.Node, s *names) api.Term {
	clauses, time, behind := n.Kids, word("infinity"), &names{s.env}
	last := w.l[n.Kids[len(n.Kids)-1]]
	if last.Kind == api.NAfter {
		clauses = n.Kids[:len(n.Kids)-1]
		time = w.value(last.Kids[0], behind)
	}
	for {
		for t, there := w.box.peek(); there && len(clauses) > 0; t, there = w.box.peek() {
			if value, found := w.first(clauses, "", t, s, w.box.take); found {
				return value
			}
			w.count()
			w.box.cursor++
		}
		waits, right := w.box.wait(w.clock, time)
		switch {
		case !right:
			fail(word("timeout_value"))
		case !waits:
			s.env = behind.env
			return w.body(last, s)
		}
		w.wait()
	}
}

func (w *teller) unless(decides, goesOn string, n api.Node, s *names) api.Term {
	switch left := w.value(n.Kids[0], s); {
	case sample.Same(left, word(decides)):
		return left
	case !sample.Same(left, word(goesOn)):
		fail(word("badarg"))
	}
	return w.value(n.Kids[1], s)
}

func (w *teller) built(name string, args []api.Term) api.Term {
	t, err := bif.Call(name, args...)
	if err != nil {
		reason, _ := bif.Reason(err)
		fail(reason)
	}
	return t
}

// ask is an act's answer.
func (w *teller) ask(name string, args []api.Term) api.Term {
	w.count()
	class, t := w.act(name, args)
	if class != "" {
		panic(raised{class, t})
	}
	return t
}

func (w *teller) call(i int, args []api.Term) api.Term {
	n, known := w.l[i], w.seen[i]
	switch known.Role {
	case api.RLocal:
		w.count()
		return w.apply(known.Slot, args)
	case api.RRemote:
		w.count()
		return w.apply(w.exported(n.Mod, n.Text, len(args)), args)
	}
	switch b := api.Bifs()[known.Slot]; b.Kind {
	case api.BTerm:
		return w.built(b.Name, args)
	case api.BRaise:
		panic(raised{b.Name, args[0]})
	default:
		return w.ask(b.Name, args)
	}
}
