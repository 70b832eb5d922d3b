package check_test

import (
	"math/rand"
	"strings"

	"heddle/api"
)

// maker makes trees of programs by chance: most phrases may stand where they do, some may not.
type maker struct{ r *rand.Rand }

func (m maker) pick(all ...string) string { return all[m.r.Intn(len(all))] }

func (m maker) chance(one int) bool { return m.r.Intn(one) == 0 }

// some are from least to most phrases.
func (m maker) some(least, most int, phrase func() *tree) []*tree {
	var all []*tree
	for range least + m.r.Intn(most-least+1) {
		all = append(all, phrase())
	}
	return all
}

// someProgram is a program, each node of which has a place of its own.
func someProgram(r *rand.Rand, depth int) *tree {
	m := maker{r}
	p := of(api.NProgram, "", m.some(1, 3, func() *tree { return m.module(depth) })...)
	numberPlaces(p, r)
	return p
}

func (m maker) module(d int) *tree {
	name := m.pick("m", "n", "k", "l")
	if m.chance(12) {
		name = "erlang"
	}
	return of(api.NModule, name, m.some(0, 4, func() *tree {
		if m.chance(4) {
			export := of(api.NExport, m.name())
			export.Int = int64(m.r.Intn(3))
			return export
		}
		return m.function(d)
	})...)
}

// name is that of a function, or of a built-in, or of both.
func (m maker) name() string {
	return m.pick("f", "g", "f", "g", "f", "g", "abs", "self", "hd", "exit", "max", "node")
}

func (m maker) function(d int) *tree {
	name, arity := m.name(), m.r.Intn(3)
	function := of(api.NFunction, name, m.some(1, 3, func() *tree { return m.fun(name, arity, d) })...)
	function.Int = int64(arity)
	first := function.kids[0]
	function.Text, function.Int = first.Text, int64(len(first.kids[0].kids))
	return function
}

func (m maker) fun(name string, arity, d int) *tree {
	if m.chance(15) {
		name = m.name()
	}
	if m.chance(15) {
		arity++
	}
	return m.clause(d, name, of(api.NArgs, "", m.some(arity, arity, func() *tree { return m.pattern(d - 1) })...))
}

// clause is one with a pattern.
func (m maker) clause(d int, text string, pattern *tree) *tree {
	kids := []*tree{pattern}
	if m.chance(3) {
		kids = append(kids, of(api.NGuard, "", m.some(1, 2, func() *tree {
			return of(api.NConj, "", m.some(1, 2, func() *tree { return m.guard(d - 1) })...)
		})...))
	}
	return of(api.NClause, text, append(kids, m.body(d))...)
}

func (m maker) body(d int) *tree {
	return of(api.NBody, "", m.some(1, 3, func() *tree { return m.expression(d - 1) })...)
}

// leaf is a phrase without parts; what it is of ten is chosen.
func (m maker) leaf(of10 int) *tree {
	switch of10 {
	case 0:
		return &tree{Node: api.Node{Kind: api.EInt, Int: int64(m.r.Intn(3))}}
	case 1:
		return of(api.EAtom, m.pick("a", "", "true"))
	case 2:
		return of(api.ENil, "")
	}
	return of(api.EVar, m.pick("A", "B", "C", "D", "_E"))
}

func (m maker) operator() string {
	return m.pick(strings.Fields("== /= =< < >= > =:= =/= + - or xor * div rem and ++ --")...)
}

func (m maker) pattern(d int) *tree {
	again := func() *tree { return m.pattern(d - 1) }
	switch n := m.r.Intn(18); {
	case n == 0:
		return m.expression(d)
	case n == 1:
		return of(api.EUnary, m.pick("+", "-", "-", "not"), m.leaf(m.r.Intn(4)/3))
	case n < 4:
		return of(api.EVar, "_")
	case d <= 0 || n < 12:
		return m.leaf(m.r.Intn(10))
	case n < 14:
		return of(api.EMatch, "", again(), again())
	case n < 16:
		return of(api.EList, "", m.some(2, 3, again)...)
	}
	return of(api.ETuple, "", m.some(0, 3, again)...)
}

func (m maker) guard(d int) *tree {
	again := func() *tree { return m.guard(d - 1) }
	switch n := m.r.Intn(20); {
	case n == 0:
		return m.expression(d)
	case d <= 0 || n < 10:
		return m.leaf(m.r.Intn(10))
	case n < 12:
		return m.call(again)
	case n < 13:
		return of(api.EUnary, m.pick("+", "-", "not"), again())
	case n < 15:
		return of(api.EBinary, m.operator(), again(), again())
	case n < 17:
		return of(api.EAndAlso+api.NodeKind(m.r.Intn(2)), "", again(), again())
	case n < 18:
		return of(api.EList, "", m.some(2, 3, again)...)
	}
	return of(api.ETuple, "", m.some(0, 3, again)...)
}

func (m maker) call(argument func() *tree) *tree {
	call := of(api.ECall, m.name(), m.some(0, 2, argument)...)
	call.Mod = m.pick("", "", "", "", "erlang", "erlang", "k")
	return call
}

func (m maker) expression(d int) *tree {
	again := func() *tree { return m.expression(d - 1) }
	match := func() *tree { return of(api.EMatch, "", m.pattern(d-1), again()) }
	if d <= 0 {
		return m.leaf(m.r.Intn(10))
	}
	switch m.r.Intn(26) {
	case 0, 1:
		return m.leaf(m.r.Intn(10))
	case 2, 3, 4, 5, 6:
		return match()
	case 7:
		return of(api.ETuple, "", m.some(0, 3, again)...)
	case 8:
		return of(api.EList, "", m.some(2, 3, again)...)
	case 9:
		return of(api.EBegin, "", m.body(d))
	case 10:
		return of(api.ESend, "", again(), again())
	case 11:
		return of(api.EUnary, m.pick("+", "-", "not"), again())
	case 12:
		return of(api.EBinary, m.operator(), again(), again())
	case 13, 14:
		return of(api.EAndAlso+api.NodeKind(m.r.Intn(2)), "", again(), again())
	case 15, 16:
		return of(api.ECase, "", append([]*tree{again()}, m.clauses(d)...)...)
	case 17, 18:
		return m.receive(d)
	case 19, 20:
		return m.try(d)
	}
	return m.call(again)
}

func (m maker) clauses(d int) []*tree {
	return m.some(1, 3, func() *tree { return m.clause(d-1, "", m.pattern(d-1)) })
}

func (m maker) receive(d int) *tree {
	after := of(api.NAfter, "", m.expression(d-1), m.body(d-1))
	switch m.r.Intn(4) {
	case 0:
		return of(api.EReceive, "", after)
	case 1:
		return of(api.EReceive, "", m.clauses(d)...)
	}
	return of(api.EReceive, "", append(m.clauses(d), after)...)
}

func (m maker) try(d int) *tree {
	clauses := m.some(1, 3, func() *tree { return m.clause(d-1, m.pick("throw", "error", "exit", "_"), m.pattern(d-1)) })
	return of(api.ETry, "", append([]*tree{m.body(d - 1)}, clauses...)...)
}
