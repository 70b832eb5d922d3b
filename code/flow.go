package code

import (
	"math/bits"

	"heddle/api"
)

// set is one of instructions, by their numbers, a bit each.
type set []uint64

func newSet(limit int) set { return make(set, (limit+63)/64) }

func (s set) has(i int) bool { return s[i/64]&(1<<(i%64)) != 0 }

func (s set) put(i int) { s[i/64] |= 1 << (i % 64) }

func (s set) drop(i int) { s[i/64] &^= 1 << (i % 64) }

// from is the lowest one that is not below i; -1: there is none.
func (s set) from(i int) int {
	for word, ahead := i/64, i%64; word < len(s); word, ahead = word+1, 0 {
		if left := s[word] >> ahead << ahead; left != 0 {
			return word*64 + bits.TrailingZeros64(left)
		}
	}
	return -1
}

// rounds takes those that wait, from the lowest to the highest and then from the lowest again, till none is left. Who takes one may put others meanwhile: those behind it have their turn in this round, all others in the next one.
func (s set) rounds(yield func(i int) bool) {
	for i := s.from(0); i >= 0; {
		s.drop(i)
		if !yield(i) {
			return
		}
		if i = s.from(i + 1); i < 0 {
			i = s.from(0)
		}
	}
}

// state is how high the stack is at an instruction, and how many handlers there are.
type state struct{ height, handlers int }

// flow goes through a function's instructions, each with the state that others give it.
type flow struct {
	*unit
	states  []state
	reached set // those that have a state
	waiting set // of these, those that were not gone through
	highest int
}

func newFlow(u *unit) *flow {
	n := len(u.fun.Code)
	return &flow{unit: u, states: make([]state, n), reached: newSet(n), waiting: newSet(n)}
}

// checkFlow refuses a function whose ways do not fit.
func (u *unit) checkFlow() error {
	if at := newFlow(u).walk(); at >= 0 {
		return refuse(u.start+at, api.ErrFlow)
	}
	return nil
}

// walk is the first instruction that does not fit its state or those of others; -1: there is none.
func (f *flow) walk() int {
	f.give(0, state{})
	for at := range f.waiting.rounds {
		if !f.visit(at) {
			return at
		}
	}
	return -1
}

// give hands a state to an instruction; it waits from then on. False: it has another one already.
func (f *flow) give(to int, s state) bool {
	if f.reached.has(to) {
		return f.states[to] == s
	}
	f.states[to] = s
	f.reached.put(to)
	f.waiting.put(to)
	return true
}

// visit: does an instruction fit its state, and do those take theirs with which it may go on?
func (f *flow) visit(at int) bool {
	in, s := f.fun.Code[at], f.states[at]
	if s.height < f.takes(in) || !handles(in.Op, s) {
		return false
	}
	next, other := f.behind(in, s)
	f.highest = max(f.highest, s.height, next.height)
	if max(next.height, other.height) > api.MaxStack {
		return false
	}
	to, elsewhere := ways(in, at)
	if to == len(f.fun.Code) {
		return false
	}
	return (to < 0 || f.give(to, next)) && (elsewhere < 0 || f.give(elsewhere, other))
}

// handles: may an instruction that leaves the frame, or a handler, do so?
func handles(op api.Op, s state) bool {
	switch op {
	case api.CReturn:
		if s.height != 1 {
			return false
		}
		fallthrough
	case api.CTail, api.CLeave:
		return s.handlers == 0
	case api.CDone:
		return s.handlers > 0
	}
	return true
}

// behind are the states behind an instruction: of the next one, and of the other one with which it may go on.
func (u *unit) behind(in api.Insn, s state) (next, other state) {
	s.height -= u.takes(in)
	next, other = s, s
	next.height += puts(in)
	switch in.Op {
	case api.CTry:
		other.height += 2 // the reason and the class
		fallthrough
	case api.CGuard:
		next.handlers++
	case api.CDone:
		next.handlers--
	}
	return next, other
}

// takes is how many terms an instruction takes away.
func (u *unit) takes(in api.Insn) int {
	switch in.Op {
	case api.CList:
		return in.A + 1
	case api.CTuple:
		return in.A
	case api.CBif:
		return u.bifs[in.A].Arity
	case api.CAct:
		return u.acts[in.A].Arity
	case api.CTail:
		fallthrough
	case api.CCall:
		return u.mod.Funs[in.A].Arity
	case api.CLeave:
		fallthrough
	case api.CRemote:
		return in.B
	case api.CSame, api.CSend:
		return 2
	case api.CStore, api.CPop, api.CDup, api.CReturn, api.CBranch, api.CIs, api.CParts, api.CCons, api.CRaise, api.CWait:
		return 1
	}
	return 0
}

// puts is how many terms an instruction puts, if it goes on with the next one; CDup puts the one again that it takes. CTail and CLeave count as if they came back.
func puts(in api.Insn) int {
	switch in.Op {
	case api.CParts:
		return in.A
	case api.CDup, api.CCons:
		return 2
	case api.CConst, api.CLoad, api.CTuple, api.CList, api.CBif, api.CCall, api.CTail, api.CRemote, api.CLeave, api.CSend, api.CAct, api.CPeek:
		return 1
	}
	return 0
}

// ways are the instructions with which the one at a place may go on: the next one, and another one; -1, where it does not.
func ways(in api.Insn, at int) (next, other int) {
	next, other = at+1, -1
	switch in.Op {
	case api.CTail, api.CLeave, api.CReturn, api.CRaise:
		next = -1
	case api.CJump, api.CNext:
		next = -1
		fallthrough
	case api.CBranch, api.CCons, api.CSame, api.CTry, api.CGuard, api.CPeek, api.CWait:
		other = in.A
	case api.CIs, api.CParts:
		other = in.B
	}
	return next, other
}
