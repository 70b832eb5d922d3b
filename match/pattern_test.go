package match_test

import (
	"fmt"
	"math"
	"slices"
	"strings"
	"testing"

	"heddle/api"
	"heddle/parse"
	"heddle/sample"
)

// matches: each line is the patterns of a function, of which the last is held against a term in an environment; and what is behind it: the environment, "no", or an unset slot.
type matches []struct{ patterns, term, env, want string }

func (l matches) hold(t *testing.T) {
	t.Helper()
	for _, c := range l {
		p := made(t, "f("+c.patterns+") -> ok.")
		all := p.patterns()
		heldAgainst(t, p, all[len(all)-1], c.patterns, read(t, c.term), row(t, c.env), c.want)
	}
}

// heldAgainst holds what Match answers of a node, told as a text.
func heldAgainst(t *testing.T, p program, i int, what string, x api.Term, env []api.Term, want string) {
	t.Helper()
	behind, ok, err := p.Match(i, x, env)
	got := told(err, "no")
	if ok {
		got = show(behind...)
	}
	if got != want || !ok && len(behind) > 0 || ok && err != nil {
		t.Errorf("%s, %s, env %s: %s, %v, %v; want %s", cut(what), cut(show(x)), cut(show(env...)), cut(got), ok, err, cut(want))
	}
}

// The chapter's first example.
func TestMatchExample(t *testing.T) {
	p := made(t, "f({X, [Y | Z]}, X) -> ok.")
	heldAgainst(t, p, p.patterns()[0], "example", read(t, "{1,[2,3]}"), nil, "1; 2; [3]")
	if k, env, err := p.Choose(p.clauses(), row(t, "{1,[2]}; 2"), nil, who()); k != -1 || len(env) > 0 || err != nil {
		t.Error(k, env, err)
	}
}

// P14.2: numbers that are no nodes', whatever else is wrong.
func TestMatchRange(t *testing.T) {
	p := made(t, "f(X) -> ok.")
	for _, i := range []int{-1, len(p.l), len(p.l) + 1, math.MinInt, math.MaxInt, -len(p.l), 1 << 32, -1 << 32} {
		for _, c := range []calls{{term: num(1)}, {term: api.Term{}}, {term: num(1), env: []api.Term{{Kind: 9}}}} {
			c.p, c.i = p, i
			c.match(t, fault(0, api.ErrRange))
		}
	}
}

// P14.2: nodes of every kind, below the root and beside it; ErrRule is ahead of what is wrong with terms.
func TestMatchEveryNode(t *testing.T) {
	p := made(t, allKinds)
	m := modelOf(p)
	kindsMet := map[api.NodeKind]int{}
	for i, n := range p.l {
		kindsMet[n.Kind]++
		env := slices.Repeat([]api.Term{num(1)}, 8)
		if m.isPattern(i) {
			if _, _, err := p.Match(i, num(1), env); err != nil {
				t.Errorf("%+v: %v", n, err)
			}
			continue
		}
		for _, c := range []calls{{term: num(1), env: env}, {term: num(1)}, {term: api.Term{}}, {term: num(1), env: []api.Term{{Kind: 9}}}} {
			c.p, c.i = p, i
			c.match(t, fault(0, api.ErrRule))
		}
	}
	for kind := api.EInt; kind <= api.NExport; kind++ {
		if kindsMet[kind] == 0 && (kind <= api.EOrElse || kind >= api.NClause) {
			t.Errorf("kind %d is not met", kind)
		}
	}
}

// beside is a program beside which there are nodes that are not below its root: a pattern that is a test, a guard, a clause.
func beside(t *testing.T) (p program, phrase, guard, clause int) {
	t.Helper()
	p = made(t, "f(1) -> ok.")
	n := len(p.l)
	p.l = append(p.l, api.Node{Kind: api.EInt, Int: 1}, api.Node{Kind: api.NConj, Kids: []int{n}}, api.Node{Kind: api.NGuard, Kids: []int{n + 1}},
		api.Node{Kind: api.NBody, Kids: []int{n}}, api.Node{Kind: api.NClause, Kids: []int{n, n + 2, n + 3}}, api.Node{Kind: api.EVar, Text: "X"}, api.Node{Kind: 99, Kids: []int{-5, 1000}})
	p.Rules = rulesOf(t, p.l, p.root)
	return p, n, n + 2, n + 4
}

// P14.2: nodes that are not below the root are no patterns.
func TestMatchBeside(t *testing.T) {
	p, _, _, _ := beside(t)
	for i := range p.l {
		if !slices.Contains(parse.Below(p.l, p.root), i) {
			calls{p: p, i: i, term: num(1)}.match(t, fault(0, api.ErrRule))
		}
	}
}

// P14.2: phrases of bodies and guards are patterns, too, if all in them may be.
func TestMatchInBodies(t *testing.T) {
	p := made(t, "f(A) when A == {1, -2} -> {1, [a | -2]}, X = {1, Y = b}, X = (Z = 3), A = {X}, - (1), not 1, - - 1, + a, -A.")
	body := p.body()
	at := slices.IndexFunc(p.l, func(n api.Node) bool { return n.Kind == api.ETuple && len(n.Kids) == 2 })
	heldAgainst(t, p, at, "{1, -2} in a guard", read(t, "{1,-2}"), nil, "")
	heldAgainst(t, p, body[0], "{1, [a | -2]}", read(t, "{1,[a|-2]}"), nil, "")
	heldAgainst(t, p, body[0], "{1, [a | -2]}", read(t, "{1,[a|2]}"), nil, "no")
	heldAgainst(t, p, body[1], "X = {1, Y = b}", read(t, "{1,b}"), nil, "-; b; {1,b}")
	heldAgainst(t, p, body[2], "X = (Z = 3), X tested", read(t, "3"), row(t, "-; -; 3"), "-; -; 3; 3")
	heldAgainst(t, p, body[2], "X = (Z = 3), X unset", read(t, "3"), row(t, "-; 3"), "slot 2")
	heldAgainst(t, p, body[4], "- (1)", read(t, "-1"), nil, "")
	for _, i := range []int{body[3], body[5], body[6], body[7], body[8]} {
		calls{p: p, i: i, term: num(1), env: row(t, "1; 1; 1; 1")}.match(t, fault(0, api.ErrRule))
	}
}

// P14.2: variables of every role.
func TestMatchRoles(t *testing.T) {
	p := made(t, "f(X, X, _, _Y) -> {X}.")
	all := p.patterns()
	heldAgainst(t, p, all[0], "X, bound", read(t, "{a}"), nil, "{a}")
	heldAgainst(t, p, all[0], "X, bound, which was set", read(t, "{a}"), row(t, "b; c; d"), "{a}; c; d")
	heldAgainst(t, p, all[1], "X, tested", read(t, "{a}"), row(t, "{a}"), "{a}")
	heldAgainst(t, p, all[1], "X, tested", read(t, "{a}"), row(t, "{a}; -; 3"), "{a}; -; 3")
	heldAgainst(t, p, all[1], "X, tested", read(t, "{a}"), row(t, "{b}"), "no")
	heldAgainst(t, p, all[1], "X, tested, unset", read(t, "{a}"), nil, "slot 0")
	heldAgainst(t, p, all[1], "X, tested, unset", read(t, "{a}"), row(t, "-; {a}"), "slot 0")
	heldAgainst(t, p, all[2], "_", read(t, "{a}"), nil, "")
	heldAgainst(t, p, all[2], "_", read(t, "{a}"), row(t, "-; 1"), "-; 1")
	heldAgainst(t, p, all[3], "_Y", read(t, "{a}"), nil, "-; {a}")
	for _, i := range p.nodes(api.ETuple) {
		calls{p: p, i: i, term: num(1), env: row(t, "1; 1")}.match(t, fault(0, api.ErrRule))
	}
	for _, i := range p.nodes(api.EVar)[4:] {
		calls{p: p, i: i, term: num(1), env: row(t, "1; 1")}.match(t, fault(0, api.ErrRule))
	}
}

// P14.2: what is no term: the term ahead of the slots, of these the first, all ahead of unset slots and of what does not fit.
func TestMatchNoTerms(t *testing.T) {
	p := made(t, "f(X, {X, 1}) -> ok.")
	i := p.patterns()[1]
	zero := noTerm{api.Term{}, []api.Fault{{Layer: "term", Code: api.ErrTerm}}}
	zeroToo := noTerm{unsetToo(), zero.faults}
	for _, n := range append(noTerms(), zero, zeroToo) {
		calls{p: p, i: i, term: n.t}.match(t, n.at(0)...)
		calls{p: p, i: i, term: n.t, env: []api.Term{num(1), {Kind: 9}}}.match(t, n.at(0)...)
	}
	for k, n := range noTerms() {
		other := noTerms()[(k+1)%len(noTerms())]
		calls{p: p, i: i, term: read(t, "{1,1}"), env: []api.Term{n.t}}.match(t, n.at(0)...)
		calls{p: p, i: i, term: read(t, "{1,1}"), env: []api.Term{num(1), n.t}}.match(t, n.at(1)...)
		calls{p: p, i: i, term: read(t, "a"), env: []api.Term{{}, num(1), unsetToo(), n.t, num(1), other.t}}.match(t, n.at(3)...)
		calls{p: p, i: i, term: read(t, "{1,1}"), env: append(slices.Repeat([]api.Term{{}}, 3000), n.t, other.t)}.match(t, n.at(3000)...)
	}
}

// P14.2: a slot is unset by its Kind alone, and it is zero behind a pattern.
func TestMatchUnsetToo(t *testing.T) {
	p := made(t, "f(X, X, Y) -> ok.")
	all := p.patterns()
	heldAgainst(t, p, all[1], "X, tested", num(1), []api.Term{unsetToo()}, "slot 0")
	heldAgainst(t, p, all[2], "Y, bound", num(1), []api.Term{unsetToo(), unsetToo(), unsetToo()}, "-; 1; -")
}

// P14.2: unset slots, ahead of and behind what does not fit.
func TestMatchUnset(t *testing.T) {
	matches{
		{"X, {X, 1}", "{1,1}", "", "slot 0"}, {"X, {X, 1}", "{1,2}", "", "slot 0"}, {"X, {1, X}", "{1,1}", "", "slot 0"}, {"X, {1, X}", "{2,1}", "", "no"},
		{"X, {1, X}", "{1,1}", "-; 1; 1", "slot 0"}, {"X, {1, X}", "{1,1}", "1", "1"}, {"X, Y, {X, Y}", "{1,2}", "1", "slot 1"}, {"X, Y, {X, Y}", "{2,2}", "1", "no"}, {"X, Y, {X, Y}", "{1,2}", "-; 2", "slot 0"},
		{"X, Y, {Y, X}", "{1,2}", "", "slot 1"}, {"X, Y, {Y, X}", "{1,2}", "-; 1; 3", "slot 0"}, {"X, {X}", "{}", "", "no"}, {"X, {X}", "{1,2}", "", "no"}, {"X, {X}", "[1]", "", "no"}, {"X, {X}", "1", "", "no"},
		{"X, [X]", "[]", "", "no"}, {"X, [X]", "[1]", "", "slot 0"}, {"X, [X]", "[1,2]", "", "slot 0"}, {"X, [X, 2]", "[1]", "", "no"}, {"X, [X, 2]", "[1|2]", "", "no"}, {"X, [X | 2]", "[1|2]", "", "slot 0"}, {"X, [1 | X]", "[2]", "", "no"}, {"X, [1 | X]", "[1]", "", "slot 0"},
		{"X, 1 = X", "2", "", "no"}, {"X, 1 = X", "1", "", "slot 0"}, {"X, X = 1", "2", "", "slot 0"}, {"X, {{1, 2}, X}", "{{1,3},1}", "", "no"}, {"X, {[1, 2], X}", "{[1,2],1}", "", "slot 0"}, {"X, {[1], X}", "{[1|2],1}", "", "no"},
		{"X, {Y, Y, X}", "{1,1,1}", "", "slot 0"}, {"X, {Y, Y, X}", "{1,2,1}", "", "no"}, {"X, {Y, X, Y}", "{1,1,1}", "1", "1; 1"}, {"X, Y, Z, {Z, Y, X}", "{1,1,1}", "", "slot 2"},
	}.hold(t)
}

// P14.2: a variable twice in one pattern is bound, then tested, whatever the environment has in its slot.
func TestMatchTwice(t *testing.T) {
	for _, x := range kinds() {
		for _, y := range kinds() {
			want := "no"
			if sample.Same(x, y) {
				want = show(x)
			}
			for _, s := range []string{"{X, X}", "{X, _ = X}", "{X = _, X}"} {
				p := made(t, "f("+s+") -> ok.")
				for _, env := range [][]api.Term{nil, {y}, {x}} {
					heldAgainst(t, p, p.patterns()[0], s, tuple(x, y), env, want)
				}
			}
			p := made(t, "f([X | X]) -> ok.")
			if y.Kind != api.KList && y.Kind != api.KNil {
				heldAgainst(t, p, p.patterns()[0], "[X | X]", list(x, y), []api.Term{y}, want)
			}
		}
	}
	matches{
		{"[X, X]", "[1,1]", "", "1"}, {"[X, X]", "[1,2]", "", "no"}, {"[X | X]", "[[]]", "", "[]"}, {"[X | X]", "[[1]]", "", "no"}, {"[X | X]", "[[1],1]", "", "[1]"}, {"[X | X]", "[[1|2],1|2]", "", "[1|2]"}, {"X = X", "{1}", "", "{1}"},
		{"{X, {Y, X}, Y}", "{1,{2,1},2}", "", "1; 2"}, {"{X, {Y, X}, Y}", "{1,{2,1},1}", "", "no"}, {"{X, {Y, X}, Y}", "{1,{2,2},2}", "", "no"}, {"{X, X, X}", "{1,1,2}", "", "no"}, {"{[X], X}", "{[1],1}", "2", "1"},
		{"X, {Y, X, Y}", "{2,1,2}", "1", "1; 2"}, {"X, {Y, X, Y}", "{2,2,2}", "1", "no"}, {"X, {X = Y, Y}", "{1,1}", "1", "1; 1"},
	}.hold(t)
}

// P14.2: patterns that are terms, each against terms of every kind.
func TestMatchLiterals(t *testing.T) {
	for _, s := range []string{
		"0", "1", "2", "-1", "+1", "+0", "-0", "576460752303423487", "-576460752303423487", "+576460752303423487", "4294967296", "true", "false", "a", "''", "'A b'", "'é'", "'n@h'", "'-'",
		"{}", "{1}", "{1, 2}", "{a, b}", "{{}, []}", "[]", "[1]", "[1, 2]", "[[]]", "[1 | 2]", "[1, 2 | a]", "[[1]]", "[{1} | {}]", "{-1}", "[-1 | +1]", "[1 | [2]]", "[1 | [2 | []]]", "[1 | [2 | a]]", "1 = 1", "{1} = {1}", "1 = +1",
	} {
		literal := strings.ReplaceAll(strings.ReplaceAll(s, "+", ""), "-0", "0")
		if _, behind, found := strings.Cut(literal, " = "); found {
			literal = behind
		}
		x, p := read(t, literal), made(t, "f("+s+") -> ok.")
		for _, y := range append(kinds(), x) {
			env := []api.Term{{}, tuple(y)}
			want, wantWith := "no", "no"
			if sample.Same(x, y) {
				want, wantWith = "", show(env...)
			}
			heldAgainst(t, p, p.patterns()[0], s, y, nil, want)
			heldAgainst(t, p, p.patterns()[0], s, y, env, wantWith)
		}
	}
	matches{
		{"1 = 2", "1", "", "no"}, {"1 = 2", "2", "", "no"}, {"-1", "1", "", "no"}, {"1", "-1", "", "no"}, {"+1", "-1", "", "no"}, {"-576460752303423487", "-576460752303423488", "", "no"}, {"-576460752303423487", "576460752303423487", "", "no"}, {"576460752303423487", "-576460752303423488", "", "no"},
		{"{}", "[]", "", "no"}, {"[]", "{}", "", "no"}, {"''", "[]", "", "no"}, {"'1'", "1", "", "no"}, {"1", "'1'", "", "no"}, {"'[]'", "[]", "", "no"}, {"'n@h'", "<n@h.1.5.0>", "", "no"}, {"0", "#Ref<n@h.1.1.2.3>", "", "no"},
	}.hold(t)
}

// P14.2: variables and _ fit terms of every kind.
func TestMatchAny(t *testing.T) {
	p := made(t, "f(X, _, {Y, _}, [Z | W], V = _) -> ok.")
	all := p.patterns()
	for _, x := range kinds() {
		heldAgainst(t, p, all[0], "X", x, nil, show(x))
		heldAgainst(t, p, all[1], "_", x, nil, "")
		heldAgainst(t, p, all[4], "V = _", x, nil, "-; -; -; -; "+show(x))
		for _, y := range kinds() {
			heldAgainst(t, p, all[2], "{Y, _}", tuple(x, y), nil, "-; "+show(x))
			behind := list(x, y)
			if y.Kind == api.KList {
				behind.Args = append([]api.Term{x}, y.Args...)
			}
			heldAgainst(t, p, all[3], "[Z | W]", behind, nil, "-; -; "+show(x, y))
		}
		if x.Kind != api.KTuple || len(x.Args) != 2 {
			heldAgainst(t, p, all[2], "{Y, _}", x, nil, "no")
		}
		if x.Kind != api.KList {
			heldAgainst(t, p, all[3], "[Z | W]", x, nil, "no")
		}
	}
}

// P14.2: tuples of fewer, as many and more terms.
func TestMatchTuples(t *testing.T) {
	matches{
		{"{}", "{}", "", ""}, {"{}", "{1}", "", "no"}, {"{X}", "{}", "", "no"}, {"{X}", "{1}", "", "1"}, {"{X}", "{1,2}", "", "no"}, {"{X, Y}", "{1}", "", "no"}, {"{X, Y}", "{1,2}", "", "1; 2"}, {"{X, Y}", "{1,2,3}", "", "no"},
		{"{X, Y}", "[1,2]", "", "no"}, {"{X, {Y, {Z}}}", "{1,{2,{3}}}", "", "1; 2; 3"}, {"{X, {Y, {Z}}}", "{1,{2,3}}", "", "no"}, {"{{X}, {Y}} = {Z, W}", "{{1},{2}}", "", "1; 2; {1}; {2}"}, {"{Z, W} = {{X}, {Y}}", "{{1},2}", "", "no"},
		{"{1, X, a, Y}", "{1,2,a,3}", "", "2; 3"}, {"{1, X, a, Y}", "{1,2,b,3}", "", "no"}, {"{1, X, a, 4}", "{1,2,a,3}", "", "no"}, {"{_, _}", "{1,2}", "", ""}, {"{_, _}", "{1,2}", "1; -; 3", "1; -; 3"},
	}.hold(t)
	for n := range 6 {
		for m := range 6 {
			p := made(t, "f({"+strings.TrimSuffix(strings.Repeat("1, ", n), ", ")+"}) -> ok.")
			want := "no"
			if n == m {
				want = ""
			}
			heldAgainst(t, p, p.patterns()[0], fmt.Sprint(n, " ones"), tuple(sample.Ones(m)...), nil, want)
		}
	}
}

// P14.2: lists of fewer, as many and more elements, proper ones and others, with tails of every kind.
func TestMatchLists(t *testing.T) {
	matches{
		{"[X]", "[]", "", "no"}, {"[X]", "[1]", "", "1"}, {"[X]", "[1,2]", "", "no"}, {"[X]", "[1|2]", "", "no"}, {"[X, Y]", "[1]", "", "no"}, {"[X, Y]", "[1,2]", "", "1; 2"}, {"[X, Y]", "[1,2,3]", "", "no"}, {"[X, Y]", "[1|2]", "", "no"}, {"[X, Y]", "[1,2|3]", "", "no"},
		{"[X | Y]", "[]", "", "no"}, {"[X | Y]", "[1]", "", "1; []"}, {"[X | Y]", "[1,2]", "", "1; [2]"}, {"[X | Y]", "[1,2,3]", "", "1; [2,3]"}, {"[X | Y]", "[1|2]", "", "1; 2"}, {"[X | Y]", "[1,2|3]", "", "1; [2|3]"}, {"[X | Y]", "[1|{2}]", "", "1; {2}"},
		{"[X, Y | Z]", "[1]", "", "no"}, {"[X, Y | Z]", "[1,2]", "", "1; 2; []"}, {"[X, Y | Z]", "[1,2,3]", "", "1; 2; [3]"}, {"[X, Y | Z]", "[1|2]", "", "no"}, {"[X, Y | Z]", "[1,2|3]", "", "1; 2; 3"}, {"[X, Y | Z]", "[1,2,3|4]", "", "1; 2; [3|4]"},
		{"[X | [Y]]", "[1]", "", "no"}, {"[X | [Y]]", "[1,2]", "", "1; 2"}, {"[X | [Y]]", "[1,2,3]", "", "no"}, {"[X | [Y]]", "[1,2|3]", "", "no"}, {"[X | [Y | Z]]", "[1,2|3]", "", "1; 2; 3"}, {"[X | [Y | Z]]", "[1,2,3]", "", "1; 2; [3]"}, {"[X | [Y, Z]]", "[1,2,3]", "", "1; 2; 3"}, {"[X | [Y | [Z | [W]]]]", "[1,2,3,4]", "", "1; 2; 3; 4"},
		{"[X | _]", "[1,2]", "", "1"}, {"[_ | X]", "[1,2]", "", "[2]"}, {"[X | 2]", "[1|2]", "", "1"}, {"[X | 2]", "[1,2]", "", "no"}, {"[X | 2]", "[1]", "", "no"}, {"[X | a]", "[1|a]", "", "1"}, {"[X | a]", "[1|b]", "", "no"}, {"[X | -2]", "[1|-2]", "", "1"}, {"[X | {Y}]", "[1|{2}]", "", "1; 2"}, {"[X | {Y}]", "[1,{2}]", "", "no"},
		{"[X | []]", "[1]", "", "1"}, {"[X | []]", "[1,2]", "", "no"}, {"[X | Y = [_]]", "[1,2]", "", "1; [2]"}, {"[X | Y = 2]", "[1|2]", "", "1; 2"}, {"[X | Y = 2]", "[1|3]", "", "no"}, {"[X | [] = Y]", "[1]", "", "1; []"},
		{"X, [1 | X]", "[1,2]", "[2]", "[2]"}, {"X, [1 | X]", "[1,2]", "2", "no"}, {"X, [1 | X]", "[1|2]", "2", "2"}, {"X, [1 | X]", "[1]", "[]", "[]"}, {"X, [1, 2 | X]", "[1,2,3|4]", "[3|4]", "[3|4]"}, {"X, [1, 2 | X]", "[1,2,3|4]", "[3,4]", "no"},
		{"[[X] | Y]", "[[1],[2]]", "", "1; [[2]]"}, {"[[X | Y], Z]", "[[1,2],3]", "", "1; [2]; 3"}, {"[{X, Y} | Z]", "[{1,2},{3,4}]", "", "1; 2; [{3,4}]"}, {"[X]", "{1}", "", "no"}, {"[X]", "1", "", "no"}, {"[X]", "a", "", "no"}, {"[X | Y]", "<n@h.1.5.0>", "", "no"}, {"[X | Y]", "#Ref<n@h.1.1.2.3>", "", "no"},
	}.hold(t)
	big := made(t, "f(["+strings.Repeat("_, ", 4093)+"X | Y]) -> ok.")
	heldAgainst(t, big, big.patterns()[0], "4094 parts", proper(sample.Ones(4094)...), nil, "1; []")
	heldAgainst(t, big, big.patterns()[0], "4094 parts", list(sample.Ones(4095)...), nil, "1; 1")
	heldAgainst(t, big, big.patterns()[0], "4094 parts", proper(sample.Ones(4093)...), nil, "no")
}

// P14.2: as long as the environment, or up to the greatest slot that was bound.
func TestMatchLength(t *testing.T) {
	matches{
		{"1", "1", "", ""}, {"1", "1", "-", "-"}, {"1", "1", "-; -; -", "-; -; -"}, {"1", "1", "1; -; a; -", "1; -; a; -"}, {"_, _, X", "1", "", "1"}, {"A, X", "1", "", "-; 1"}, {"A, B, C, X", "1", "", "-; -; -; 1"}, {"A, B, C, X", "1", "a", "a; -; -; 1"}, {"A, B, C, X", "1", "a; b; c; d; e", "a; b; c; 1; e"},
		{"A, B, C, X", "1", "-; b; -; -; -", "-; b; -; 1; -"}, {"A, B, C, {X, Y, B}", "{1,2,3}", "-; 3", "-; 3; -; 1; 2"}, {"X", "1", "-; -; -", "1; -; -"}, {"{X, Y}", "{1,2}", "a", "1; 2"}, {"{X, Y}", "{1,2}", "a; b; c", "1; 2; c"},
	}.hold(t)
	last := made(t, "f({"+manyNames(1024)+"}, X1023) -> ok.")
	heldAgainst(t, last, last.patterns()[1], "the last slot", num(1), row(t, "1"), "slot 1023")
	env, ok, err := last.Match(last.patterns()[0], tuple(sample.Ones(1024)...), nil)
	if !ok || err != nil || !same(env, sample.Ones(1024)) {
		t.Error(len(env), ok, err)
	}
	long := slices.Repeat([]api.Term{num(7)}, 5000)
	env, ok, err = last.Match(last.patterns()[1], num(7), long)
	if !ok || err != nil || !same(env, long) {
		t.Error(len(env), ok, err)
	}
}

// manyNames are so many, with commas between.
func manyNames(n int) string {
	var names []string
	for i := range n {
		names = append(names, fmt.Sprint("X", i))
	}
	return strings.Join(names, ", ")
}

// P14.2: a pattern as high as may be, held against a term as deep as may be.
func TestMatchDeep(t *testing.T) {
	p := made(t, "f("+strings.Repeat("{", 255)+"X"+strings.Repeat("}", 255)+", "+strings.Repeat("{", 400)+"Y"+strings.Repeat("}", 400)+") -> ok.")
	deep := sample.Chain(255, word("a"))
	heldAgainst(t, p, p.patterns()[0], "255 tuples", deep, nil, "a")
	heldAgainst(t, p, p.patterns()[1], "400 tuples", deep, nil, "no")
}
