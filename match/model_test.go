package match_test

import (
	"fmt"
	"math/rand"
	"slices"
	"strconv"
	"strings"

	"heddle/api"
	"heddle/bif"
	"heddle/check"
	"heddle/parse"
	"heddle/term"
)

// model tells the chapter once more, by texts: a pattern is a row of what is still to be held against what; a test tells with each value how it came.
type model struct {
	l     []api.Node
	seen  []api.Seen
	below []int // the root
}

func modelOf(p program) model {
	seen, _ := check.Check(p.l, p.root)
	return model{p.l, seen, parse.Below(p.l, p.root)}
}

// isPattern tells, by all that is below it, whether a node is a pattern.
func (m model) isPattern(i int) bool {
	return m.all(i, func(k int, n api.Node) bool {
		switch n.Kind {
		case api.EVar:
			return m.seen[k].Role != api.RUse
		case api.EUnary:
			return (n.Text == "+" || n.Text == "-") && m.l[n.Kids[0]].Kind == api.EInt
		}
		return slices.Contains([]api.NodeKind{api.EInt, api.EAtom, api.ENil, api.ETuple, api.EList, api.EMatch}, n.Kind)
	})
}

// isTest tells, likewise, whether a node is a test.
func (m model) isTest(i int) bool {
	return m.all(i, func(k int, n api.Node) bool {
		switch n.Kind {
		case api.EVar:
			return m.seen[k].Role == api.RUse
		case api.EBinary:
			return n.Text != "++" && n.Text != "--"
		case api.ECall:
			return m.seen[k].Role == api.RBif && slices.Contains(strings.Fields("abs/1 element/2 tuple_size/1 length/1 hd/1 tl/1 is_atom/1 is_boolean/1 is_integer/1 is_list/1 is_pid/1 is_reference/1 is_tuple/1 node/1 self/0 node/0"), fmt.Sprint(n.Text, "/", len(n.Kids)))
		}
		return slices.Contains([]api.NodeKind{api.EInt, api.EAtom, api.ENil, api.ETuple, api.EList, api.EUnary, api.EAndAlso, api.EOrElse}, n.Kind)
	})
}

// all: is it a node below the root, and may it and all below it stand there?
func (m model) all(i int, may func(k int, n api.Node) bool) bool {
	if _, below := slices.BinarySearch(m.below, i); !below {
		return false
	}
	for _, k := range parse.Below(m.l, i) {
		if !may(k, m.l[k]) {
			return false
		}
	}
	return true
}

// slots is an environment: those that are set.
type slots map[int]api.Term

func slotsOf(env []api.Term) slots {
	s := slots{}
	for slot, t := range env {
		if t.Kind != 0 {
			s[slot] = t
		}
	}
	return s
}

// show is the text of an environment that is at least so long.
func (s slots) show(least int) string {
	for slot := range s {
		least = max(least, slot+1)
	}
	env := make([]api.Term, least)
	for slot, t := range s {
		env[slot] = t
	}
	return show(env...)
}

// held is a pattern, and what it is held against.
type held struct {
	i int
	t api.Term
}

// fit tells "yes", "no", or an unset slot; what is bound is put into the slots.
func (m model) fit(row []held, s slots) string {
	for len(row) > 0 {
		i, t := row[0].i, row[0].t
		n, behind := m.l[i], row[1:]
		row = nil
		switch {
		case n.Kind == api.EVar && m.seen[i].Role == api.RTest:
			there, set := s[m.seen[i].Slot]
			if !set {
				return fmt.Sprint("slot ", m.seen[i].Slot)
			}
			if !isSame(there, t) {
				return "no"
			}
		case n.Kind == api.EVar && n.Text != "_":
			s[m.seen[i].Slot] = t
		case n.Kind == api.EVar:
		case n.Kind == api.EMatch:
			row = []held{{n.Kids[0], t}, {n.Kids[1], t}}
		case n.Kind == api.ETuple:
			if t.Kind != api.KTuple || len(t.Args) != len(n.Kids) {
				return "no"
			}
			for k, kid := range n.Kids {
				row = append(row, held{kid, t.Args[k]})
			}
		case n.Kind == api.EList:
			for _, kid := range n.Kids[:len(n.Kids)-1] {
				head, rest, there := term.Split(t)
				if !there {
					return "no"
				}
				row, t = append(row, held{kid, head}), rest
			}
			row = append(row, held{n.Kids[len(n.Kids)-1], t})
		default:
			if !isSame(m.literal(i), t) {
				return "no"
			}
		}
		row = append(row, behind...)
	}
	return "yes"
}

func isSame(a, b api.Term) bool { return show(a) == show(b) }

// literal is the term that a phrase without variables has as its text.
func (m model) literal(i int) api.Term {
	n := m.l[i]
	switch n.Kind {
	case api.EInt:
		return num(n.Int)
	case api.EUnary:
		t, _ := term.Read(strings.Trim(n.Text, "+") + strconv.FormatInt(m.l[n.Kids[0]].Int, 10))
		if m.l[n.Kids[0]].Int == 0 {
			t = num(0)
		}
		return t
	case api.EAtom:
		return word(n.Text)
	}
	return null()
}

// value tells a test's value and "has", or "fails", or an unset slot.
func (m model) value(i int, s slots, who api.Who) (api.Term, string) {
	n := m.l[i]
	if n.Kind == api.EVar {
		t, set := s[m.seen[i].Slot]
		if !set {
			return api.Term{}, fmt.Sprint("slot ", m.seen[i].Slot)
		}
		return t, "has"
	}
	var args []api.Term
	for _, kid := range n.Kids {
		t, how := m.value(kid, s, who)
		if how != "has" {
			return api.Term{}, how
		}
		args = append(args, t)
		if n.Kind != api.EAndAlso && n.Kind != api.EOrElse || len(args) == 2 {
			continue
		}
		goesOn, ends := word("true"), word("false")
		if n.Kind == api.EOrElse {
			goesOn, ends = ends, goesOn
		}
		if isSame(t, ends) {
			return ends, "has"
		}
		if !isSame(t, goesOn) {
			return api.Term{}, "fails"
		}
	}
	t, err := m.make(n, i, args, who)
	if err != nil {
		return api.Term{}, "fails"
	}
	return t, "has"
}

// make is what a phrase comes to, by the values of its parts.
func (m model) make(n api.Node, i int, args []api.Term, who api.Who) (api.Term, error) {
	switch n.Kind {
	case api.EAndAlso, api.EOrElse:
		return args[1], nil
	case api.ETuple:
		t := tuple(args...)
		return t, term.Check(t)
	case api.EList:
		t := args[len(args)-1]
		var err error
		for _, head := range slices.Backward(args[:len(args)-1]) {
			if t, err = term.Cons(head, t); err != nil {
				break
			}
		}
		return t, err
	case api.EUnary, api.EBinary, api.ECall:
		switch fmt.Sprint(n.Text, len(args)) {
		case "self0":
			return who.Self, nil
		case "node0":
			return word(who.Node), nil
		}
		return bif.Call(n.Text, args...)
	}
	return m.literal(i), nil
}

// guard tells "yes", "no", or an unset slot.
func (m model) guard(i int, s slots, who api.Who) string {
	for _, conj := range m.l[i].Kids {
		all := "yes"
		for _, test := range m.l[conj].Kids {
			t, how := m.value(test, s, who)
			if strings.HasPrefix(how, "slot ") {
				return how
			}
			if !isSame(t, word("true")) {
				all = "no"
				break
			}
		}
		if all == "yes" {
			return all
		}
	}
	return "no"
}

// choose tells the place and the environment, "none", or an unset slot.
func (m model) choose(clauses []int, args, env []api.Term, who api.Who) string {
	for place, clause := range clauses {
		kids, s := m.l[clause].Kids, slotsOf(env)
		patterns := []int{kids[0]}
		if m.l[kids[0]].Kind == api.NArgs {
			patterns = m.l[kids[0]].Kids
		}
		if len(patterns) != len(args) {
			continue
		}
		var row []held
		for k, i := range patterns {
			row = append(row, held{i, args[k]})
		}
		how := m.fit(row, s)
		if how == "yes" && len(kids) == 3 {
			how = m.guard(kids[1], s, who)
		}
		if how == "yes" {
			return fmt.Sprintf("%d: %s", place, s.show(len(env)))
		}
		if how != "no" {
			return how
		}
	}
	return "none"
}

// maker makes texts of programs, and terms, by chance.
type maker struct{ r *rand.Rand }

func (m maker) pick(all ...string) string { return all[m.r.Intn(len(all))] }

// some are from least to most phrases, with something between.
func (m maker) some(least, most int, between string, phrase func() string) string {
	var all []string
	for range least + m.r.Intn(most-least+1) {
		all = append(all, phrase())
	}
	return strings.Join(all, between)
}

// forms is a module with a function, in each clause of which there is a case.
func (m maker) forms() string {
	return m.some(1, 3, "; ", func() string {
		bound := slots{}
		args := m.pattern(bound, 2) + ", " + m.pattern(bound, 2)
		clauses := m.some(1, 3, "; ", func() string {
			ahead := slots{}
			for name := range bound {
				ahead[name] = api.Term{}
			}
			return m.pattern(ahead, 3) + m.when(ahead) + " -> ok"
		})
		return "f(" + args + ")" + m.when(bound) + " -> case 1 of " + clauses + " end"
	}) + "."
}

func (m maker) when(bound slots) string {
	if m.r.Intn(2) == 0 {
		return ""
	}
	return " when " + m.some(1, 3, "; ", func() string { return m.some(1, 2, ", ", func() string { return m.test(bound, 3) }) })
}

// pattern is one; the names that stand in it are bound behind it, by their letters from A on.
func (m maker) pattern(bound slots, d int) string {
	again := func() string { return m.pattern(bound, d-1) }
	switch n := m.r.Intn(14); {
	case n < 4 || d <= 0 && n < 8:
		name := m.r.Intn(4)
		bound[name] = api.Term{}
		return string(rune('A' + name))
	case n < 5:
		return "_"
	case n < 7 || d <= 0:
		return m.pick("0", "1", "-1", "+1", "-0", "a", "true", "''", "[]", "{}")
	case n < 9:
		return "{" + m.some(0, 3, ", ", again) + "}"
	case n < 11:
		return "[" + m.some(1, 3, ", ", again) + "]"
	case n < 13:
		return "[" + m.some(1, 2, ", ", again) + " | " + again() + "]"
	}
	return again() + " = " + again()
}

// test is one of the names that are bound.
func (m maker) test(bound slots, d int) string {
	again := func() string { return m.test(bound, d-1) }
	switch n := m.r.Intn(20); {
	case len(bound) > 0 && (n < 6 || d <= 0):
		name := m.r.Intn(4)
		for _, there := bound[name]; !there; _, there = bound[name] {
			name = m.r.Intn(4)
		}
		return string(rune('A' + name))
	case n < 8 || d <= 0:
		return m.pick("0", "1", "2", "true", "false", "a", "[]", "self()", "node()")
	case n < 9:
		return "{" + m.some(0, 2, ", ", again) + "}"
	case n < 10:
		return "[" + m.some(1, 2, ", ", again) + " | " + again() + "]"
	case n < 12:
		return m.pick("hd", "tl", "abs", "length", "is_list", "is_atom", "node", "erlang:tuple_size", "is_boolean") + "(" + again() + ")"
	case n < 13:
		return m.pick("+", "-", "not ") + "(" + again() + ")"
	case n < 17:
		return "(" + again() + ") " + m.pick(strings.Fields("== /= =< < >= > =:= =/= + - or xor * div rem and")...) + " (" + again() + ")"
	}
	return "(" + again() + ") " + m.pick("andalso", "orelse") + " (" + again() + ")"
}

// term is a small one.
func (m maker) term(d int) api.Term {
	switch n := m.r.Intn(10); {
	case n < 6 || d <= 0:
		return []api.Term{num(0), num(1), num(-1), word("a"), word("true"), word("false"), word(""), null(), tuple(), pid("n@h", 1, 5, 0), word("n@h")}[m.r.Intn(11)]
	case n < 8:
		return tuple(m.terms(3, d-1)...)
	}
	t, _ := term.Cons(m.term(d-1), m.term(d-1))
	return t
}

func (m maker) terms(most, d int) []api.Term {
	var all []api.Term
	for range m.r.Intn(most + 1) {
		all = append(all, m.term(d))
	}
	return all
}

// env has slots that are unset.
func (m maker) env() []api.Term {
	env := m.terms(6, 2)
	for slot := range env {
		if m.r.Intn(3) == 0 {
			env[slot] = api.Term{}
		}
	}
	return env
}

// instance is a term that a pattern may fit: names stand for terms by chance, but mostly for the same.
func (m maker) instance(p program, i int, names map[string]api.Term) api.Term {
	n := p.l[i]
	if m.r.Intn(30) == 0 {
		return m.term(2)
	}
	var parts []api.Term
	for _, kid := range n.Kids {
		parts = append(parts, m.instance(p, kid, names))
	}
	switch n.Kind {
	case api.EVar:
		t, met := names[n.Text]
		if !met || n.Text == "_" {
			t = m.term(2)
		}
		names[n.Text] = t
		return t
	case api.ETuple:
		return tuple(parts...)
	case api.EList:
		t := parts[len(parts)-1]
		for _, head := range slices.Backward(parts[:len(parts)-1]) {
			t, _ = term.Cons(head, t)
		}
		return t
	case api.EMatch:
		return parts[m.r.Intn(2)]
	}
	return model{l: p.l}.literal(i)
}
