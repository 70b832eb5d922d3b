// Package luck makes programs and terms by chance, for tests. What is chosen is the caller's: Choose tells a number from 0 to below n, and the same numbers make the same things.
package luck

import (
	"maps"
	"strconv"
	"strings"
)

// Choose is a number from 0 to below n, which is above 0.
type Choose func(n int) int

// Bytes choose by themselves: one is spent for each number, and where none is left, 0 is chosen.
type Bytes []byte

// Choose spends a byte.
func (b *Bytes) Choose(n int) int {
	if len(*b) == 0 {
		return 0
	}
	k := int((*b)[0]) % n
	*b = (*b)[1:]
	return k
}

// How a name stands at a place.
const (
	unbound = iota
	bound
	partly // on some ways alone
)

// standings are those of names; who is not in it, is unbound.
type standings map[string]int

// join is how names stand where two ways meet.
func join(a, b standings) standings {
	both := standings{}
	for _, name := range pool() {
		both[name] = a[name]
		if a[name] != b[name] {
			both[name] = partly
		}
	}
	return both
}

// pool is the names that writers choose from: few, so that they meet one another.
func pool() []string { return []string{"A", "B", "C", "D", "E"} }

// writer writes texts of right programs by chance.
type writer struct {
	choose    Choose
	names     standings
	functions []string // of the module at hand, with their arities: f/1
}

// Source is the text of a right program: f/1, f/2 and g/0 of module m are exported, and p/1 of module k.
func Source(choose Choose, depth int) string { return strings.Join(Forms(choose, depth), "\n") }

// Forms are the forms of such a text: of m, then of k, the names of the modules ahead.
func Forms(choose Choose, depth int) []string {
	w := &writer{choose: choose}
	return append(w.module("m", "f/1, f/2, g/0", []string{"f/1", "f/2", "g/0", "h/1"}, depth), w.module("k", "p/1", []string{"p/1", "q/2"}, depth)...)
}

func (w *writer) module(name, exports string, functions []string, d int) []string {
	forms := []string{"-module(" + name + ").", "-export([" + exports + "])."}
	w.functions = functions
	for _, f := range functions {
		forms = append(forms, w.function(f[:1], int(f[2]-'0'), d))
	}
	return forms
}

func (w *writer) function(name string, arity, d int) string {
	var clauses []string
	for range 1 + w.choose(3) {
		w.names = standings{}
		head := name + "(" + strings.Join(w.several(arity, func() string { return w.pattern(d - 1) }), ", ") + ")"
		clauses = append(clauses, head+w.guard(d-1)+" -> "+w.body(d))
	}
	if !w.chance(4) {
		w.names = standings{}
		names := pool()[:arity]
		for _, argument := range names {
			w.names[argument] = bound
		}
		clauses = append(clauses, name+"("+strings.Join(names, ", ")+") -> "+w.body(d))
	}
	return strings.Join(clauses, "; ") + "."
}

func (w *writer) chance(one int) bool { return w.choose(one) == 0 }

func (w *writer) pick(all ...string) string { return all[w.choose(len(all))] }

func (w *writer) several(n int, phrase func() string) []string {
	var all []string
	for range n {
		all = append(all, phrase())
	}
	return all
}

func (w *writer) row(least, most int, phrase func() string) string {
	return strings.Join(w.several(least+w.choose(most-least+1), phrase), ", ")
}

func (w *writer) body(d int) string {
	text := w.row(1, 3, func() string { return w.phrase(d - 1) })
	if w.chance(2) {
		return text
	}
	// What names are is to be seen.
	shown := "display({" + strings.Join(w.standing(bound), ", ") + "})"
	if w.chance(3) {
		return text + ", " + shown
	}
	return text + ", " + shown + ", " + w.phrase(d-1)
}

// standing are the names that stand in one of these ways.
func (w *writer) standing(ways ...int) []string {
	var all []string
	for _, name := range pool() {
		for _, way := range ways {
			if w.names[name] == way {
				all = append(all, name)
			}
		}
	}
	return all
}

func (w *writer) leaf() string {
	if names := w.standing(bound); len(names) > 0 && !w.chance(3) {
		return w.pick(names...)
	}
	return w.pick("0", "1", "2", "a", "b", "true", "false", "infinity", "[]", "{}", "-1")
}

func (w *writer) pattern(d int) string {
	again := func() string { return w.pattern(d - 1) }
	if names := w.standing(bound, unbound); len(names) > 0 && w.chance(2) {
		name := w.pick(names...)
		w.names[name] = bound
		return name
	}
	switch n := w.choose(10); {
	case n < 2:
		return "_"
	case n < 5 || d <= 0:
		return w.pick("0", "1", "a", "b", "true", "[]", "-1", "+2")
	case n < 7:
		return "{" + w.row(0, 3, again) + "}"
	case n < 8:
		return "[" + w.row(1, 2, again) + "]"
	case n < 9:
		return "[" + w.row(1, 2, again) + " | " + again() + "]"
	}
	left := again()
	return "(" + left + " = " + again() + ")"
}

// guard is one with its when, or none.
func (w *writer) guard(d int) string {
	if !w.chance(3) {
		return ""
	}
	rows := w.several(1+w.choose(2), func() string { return w.row(1, 2, func() string { return w.test(d) }) })
	return " when " + strings.Join(rows, "; ")
}

func (w *writer) test(d int) string {
	again := func() string { return w.test(d - 1) }
	switch n := w.choose(14); {
	case n < 3:
		return w.pick("true", "true", "false", w.leaf())
	case n < 4 || d <= 0:
		return "(" + w.leaf() + " " + w.pick("==", "/=", "<", ">=", "=:=") + " " + w.leaf() + ")"
	case n < 5:
		return w.pick("is_atom", "is_list", "is_tuple", "hd", "not ", "length", "- ", "erlang:is_boolean") + "(" + again() + ")"
	case n < 7:
		return "(" + w.pick("self()", "node()", "erlang:self()") + " " + w.pick("==", "/=") + " " + again() + ")"
	case n < 9:
		return "(" + again() + " " + w.pick("andalso", "orelse") + " " + again() + ")"
	case n < 10:
		return "({" + w.row(0, 2, again) + "} == " + w.leaf() + ")"
	case n < 11:
		return "([" + again() + " | " + again() + "] /= " + w.leaf() + ")"
	case n < 12:
		return "element(" + again() + ", " + again() + ")"
	}
	return "(" + again() + " " + w.pick("==", "=<", ">", "+", "and", "or", "rem") + " " + again() + ")"
}

// ways writes phrases of which one is done, each with what was bound ahead of all.
func (w *writer) ways(each ...func() string) []string {
	ahead := w.names
	var texts []string
	var behind standings
	for n, one := range each {
		w.names = maps.Clone(ahead)
		texts = append(texts, one())
		if n == 0 {
			behind = w.names
		} else {
			behind = join(behind, w.names)
		}
	}
	w.names = behind
	return texts
}

// perhaps writes phrases of which one is done, or none.
func (w *writer) perhaps(each ...func() string) []string {
	return w.ways(append(each, func() string { return "" })...)[:len(each)]
}

func (w *writer) clause(d int, class string) func() string {
	return func() string {
		pattern := w.pattern(d)
		guard := w.guard(d)
		return class + pattern + guard + " -> " + w.body(d)
	}
}

func (w *writer) clauses(d int) []func() string {
	var all []func() string
	for range 1 + w.choose(3) {
		all = append(all, w.clause(d, ""))
	}
	return all
}

// whatever is a clause that fits all.
func (w *writer) whatever(d int) func() string {
	return func() string { return "_ -> " + w.body(d) }
}

func (w *writer) phrase(d int) string {
	again := func() string { return w.phrase(d - 1) }
	if d <= 0 {
		return w.leaf()
	}
	switch w.choose(24) {
	case 0, 1:
		return w.leaf()
	case 2:
		return "{" + w.row(0, 3, again) + "}"
	case 3:
		return "[" + w.row(1, 2, again) + " | " + again() + "]"
	case 4, 5, 6:
		value := again()
		if names := w.standing(unbound); len(names) > 0 && !w.chance(3) {
			name := w.pick(names...)
			w.names[name] = bound
			return "(" + name + " = " + value + ")"
		}
		return "(" + w.pattern(d-1) + " = " + value + ")"
	case 7, 8:
		value, clauses := again(), w.clauses(d-1)
		if !w.chance(3) {
			clauses = append(clauses, w.whatever(d-1))
		}
		return "case " + value + " of " + strings.Join(w.ways(clauses...), "; ") + " end"
	case 9:
		return "begin " + w.body(d-1) + " end"
	case 10, 11:
		return w.try(d - 1)
	case 12, 13, 14:
		return w.receive(d - 1)
	case 15:
		to := again()
		return "(" + to + " ! " + again() + ")"
	case 16, 17:
		left := w.pick("true", "false")
		if w.chance(2) {
			left = again()
		}
		return "(" + left + w.pick(" andalso ", " orelse ") + w.perhaps(again)[0] + ")"
	case 18:
		left := again()
		return "(" + left + w.pick(" == ", " /= ", " < ", " >= ", " + ", " ++ ", " and ") + again() + ")"
	}
	return w.call(d)
}

func (w *writer) call(d int) string {
	arguments := func(arity int) string {
		return "(" + strings.Join(w.several(arity, func() string { return w.phrase(d - 1) }), ", ") + ")"
	}
	switch n := w.choose(14); {
	case n < 4:
		f := w.pick(w.functions...)
		return f[:1] + arguments(int(f[2]-'0'))
	case n < 6:
		f := w.pick("m:f/1", "m:f/2", "m:g/0", "k:p/1")
		if w.chance(5) {
			f = w.pick("m:h/1", "k:q/2", "x:y/1", "m:f/0")
		}
		return f[:3] + arguments(int(f[4]-'0'))
	case n < 7:
		return w.pick("throw", "error", "exit") + arguments(1)
	case n < 8:
		return w.pick("hd", "tl", "length", "abs", "tuple_to_list", "- ", "not ") + arguments(1)
	case n < 9:
		return w.pick("is_list", "erlang:is_atom") + arguments(1)
	case n < 12:
		return w.pick("self", "node", "make_ref", "erlang:nodes") + arguments(0)
	case n < 13:
		return w.pick("display", "link", "whereis") + arguments(1)
	}
	return "spawn" + arguments(3)
}

func (w *writer) try(d int) string {
	ahead := maps.Clone(w.names)
	body := w.body(d)
	// What the body binds may not be used in the clauses, and behind them nothing that any way binds.
	w.names = join(ahead, w.names)
	var clauses []func() string
	for range 1 + w.choose(3) {
		clauses = append(clauses, w.clause(d, w.pick("", "throw:", "error:", "exit:", "_:", "_:")))
	}
	texts := w.perhaps(clauses...)
	return "try " + body + " catch " + strings.Join(texts, "; ") + " end"
}

func (w *writer) receive(d int) string {
	var after []func() string
	if !w.chance(3) {
		after = append(after, func() string {
			time := w.pick("0", "1", "2", "infinity", w.leaf())
			if w.chance(2) {
				time = w.time(d)
			}
			return "after " + time + " -> " + w.body(d)
		})
	}
	clauses := w.clauses(d)
	if len(after) > 0 && w.chance(6) {
		clauses = nil
	}
	texts := w.ways(append(clauses, after...)...)
	text := strings.Join(texts[:len(clauses)], "; ")
	return "receive " + text + " " + strings.Join(texts[len(clauses):], "") + " end"
}

// time is one that binds a name, if there is one to bind.
func (w *writer) time(d int) string {
	phrase := w.phrase(d - 1)
	names := w.standing(unbound)
	if len(names) == 0 || w.chance(3) {
		return phrase
	}
	name := w.pick(names...)
	w.names[name] = bound
	return "begin " + phrase + ", " + name + " = " + strconv.Itoa(w.choose(4)) + " end"
}
