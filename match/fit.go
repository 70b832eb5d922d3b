package match

import (
	"heddle/api"
	"heddle/term"
)

// walk goes through patterns and tests, and keeps what is bound on its way.
type walk struct {
	rules *Rules
	env   []api.Term // as it was handed in
	bound []api.Term // by slots; unset, where nothing was bound
	who   api.Who
}

// unset is a slot without a term, where a walk needs one: with it the walk panics.
type unset int

// at is what stands in a slot, be it unset.
func (w *walk) at(slot int) api.Term {
	if slot < len(w.bound) && !isUnset(w.bound[slot]) {
		return w.bound[slot]
	}
	if slot < len(w.env) {
		return w.env[slot]
	}
	return api.Term{}
}

// read is a slot's term.
func (w *walk) read(slot int) api.Term {
	t := w.at(slot)
	if isUnset(t) {
		panic(unset(slot))
	}
	return t
}

func (w *walk) bind(slot int, t api.Term) {
	for len(w.bound) <= slot {
		w.bound = append(w.bound, api.Term{})
	}
	w.bound[slot] = t
}

// behind is the environment behind what was bound. Up to here terms may share memory with what was handed in, and with one another.
func (w *walk) behind() []api.Term {
	env := make([]api.Term, max(len(w.env), len(w.bound)))
	for slot := range env {
		if t := w.at(slot); !isUnset(t) {
			env[slot] = term.Copy(t)
		}
	}
	return env
}

// enters: do a clause's patterns fit so many terms, and does its guard hold?
func (w *walk) enters(clause int, args []api.Term) bool {
	kids := w.rules.nodes[clause].Kids
	patterns := kids[:1]
	if first := w.rules.nodes[kids[0]]; first.Kind == api.NArgs {
		patterns = first.Kids
	}
	if len(patterns) != len(args) || !w.fitAll(patterns, args) {
		return false
	}
	return !w.rules.isGuard(kids[1]) || w.holds(kids[1])
}

// fitAll: does each pattern fit the term at its place? There are as many terms, or more.
func (w *walk) fitAll(patterns []int, terms []api.Term) bool {
	for place, i := range patterns {
		if !w.fits(i, terms[place]) {
			return false
		}
	}
	return true
}

func (w *walk) fits(i int, t api.Term) bool {
	n := w.rules.nodes[i]
	switch n.Kind {
	case api.EVar:
		return w.takes(w.rules.seen[i], t)
	case api.ETuple:
		return t.Kind == api.KTuple && len(t.Args) == len(n.Kids) && w.fitAll(n.Kids, t.Args)
	case api.EList:
		return w.fitsList(n.Kids, t)
	case api.EMatch:
		return w.fits(n.Kids[0], t) && w.fits(n.Kids[1], t)
	case api.EUnary:
		whole := literal(w.rules.nodes[n.Kids[0]])
		if n.Text == "-" {
			whole.Int = -whole.Int
		}
		return isLiteral(whole, t)
	}
	return isLiteral(literal(n), t)
}

// takes: does a variable fit a term?
func (w *walk) takes(variable api.Seen, t api.Term) bool {
	switch variable.Role {
	case api.RTest:
		return term.Equal(w.read(variable.Slot), t)
	case api.RBind:
		w.bind(variable.Slot, t)
		fallthrough
	default: // RAny
		return true
	}
}

// fitsList takes the patterns of a list's parts and, last, of its tail.
func (w *walk) fitsList(patterns []int, t api.Term) bool {
	parts := len(patterns) - 1
	if t.Kind != api.KList || len(t.Args) <= parts {
		return false
	}
	return w.fitAll(patterns[:parts], t.Args) && w.fits(patterns[parts], rest(t.Args[parts:]))
}

// rest is what is left of a list: a list of these Args, or, where one is left, the tail.
func rest(args []api.Term) api.Term {
	if len(args) == 1 {
		return args[0]
	}
	return api.Term{Kind: api.KList, Args: args}
}

// isLiteral asks the kinds first, for to hold great terms against small ones takes longer.
func isLiteral(literal, t api.Term) bool { return literal.Kind == t.Kind && term.Equal(literal, t) }

// literal is the term that a node without Kids is.
func literal(n api.Node) api.Term {
	switch n.Kind {
	case api.EInt:
		return api.Term{Kind: api.KInt, Int: n.Int}
	case api.EAtom:
		return symbol(n.Text)
	}
	return api.Term{Kind: api.KNil}
}

func symbol(s string) api.Term { return api.Term{Kind: api.KAtom, Text: s} }
