package code

import "heddle/api"

// width is how many locals are looked at together, a bit each.
const width = 64

// locals goes through a function's instructions with some of its locals, those from first on.
type locals struct {
	*unit
	first   int
	unset   []uint64 // by instructions: those that are not set on some way there
	waiting set
}

// checkLocals refuses a function that loads a local which may not be set. Its ways fit.
func (u *unit) checkLocals() error {
	lowest := len(u.fun.Code)
	for first := u.fun.Arity; first < u.fun.Locals; first += width {
		lowest = min(lowest, u.firstUnset(first))
	}
	if lowest < len(u.fun.Code) {
		return refuse(u.start+lowest, api.ErrUnset)
	}
	return nil
}

// firstUnset is the lowest instruction that loads one of these locals where it may not be set; behind the last one: there is none.
func (u *unit) firstUnset(first int) int {
	n := len(u.fun.Code)
	l := &locals{unit: u, first: first, unset: make([]uint64, n), waiting: newSet(n)}
	l.give(0, ^uint64(0))
	for at := range l.waiting.rounds {
		l.visit(at)
	}
	for at, in := range u.fun.Code {
		if in.Op == api.CLoad && l.unset[at]&l.bit(in.A) != 0 {
			return at
		}
	}
	return n
}

// bit is a local's; 0 of one that is not looked at.
func (l *locals) bit(number int) uint64 {
	if number < l.first || number >= l.first+width {
		return 0
	}
	return 1 << (number - l.first)
}

// give tells an instruction what may be unset there; it waits, if that is new to it. Where all are set, nothing can be wrong, and nobody need go.
func (l *locals) give(to int, unset uint64) {
	if to < 0 || unset&^l.unset[to] == 0 {
		return
	}
	l.unset[to] |= unset
	l.waiting.put(to)
}

func (l *locals) visit(at int) {
	in, unset := l.fun.Code[at], l.unset[at]
	if in.Op == api.CStore {
		unset &^= l.bit(in.A)
	}
	next, other := ways(in, at)
	l.give(next, unset)
	l.give(other, unset)
}
