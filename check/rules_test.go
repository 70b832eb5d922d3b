package check_test

import (
	"fmt"
	"math"
	"slices"
	"strings"
	"testing"

	"heddle/api"
	"heddle/check"
	"heddle/parse"
)

// refuses holds that Check refuses nodes, with a chain of faults.
func refuses(t *testing.T, what string, l []api.Node, root int, chain ...api.Fault) {
	t.Helper()
	if seen, err := check.Check(l, root); !isRefused(seen, err, chain...) {
		t.Errorf("%s: %d nodes are known, %v", what, len(seen), err)
	}
}

// byParse is the fault of a tree that parse refuses.
func byParse(code api.Errno) []api.Fault {
	return []api.Fault{faulty(0, code), {Layer: "parse", Code: code}}
}

// small is a right program: f() -> [].
func small() []api.Node {
	l, _ := laid(of(api.NProgram, "", of(api.NModule, "m", of(api.NFunction, "f", of(api.NClause, "f", of(api.NArgs, ""), of(api.NBody, "", of(api.ENil, "")))))))
	for i := range l {
		l[i].At = 100 + i
	}
	return l
}

// wide is a program with so many nodes.
func wide(n int) []api.Node {
	tuple := of(api.ETuple, "")
	for range n - 7 {
		tuple.kids = append(tuple.kids, of(api.ENil, ""))
	}
	l, _ := laid(inBody(tuple))
	return l
}

// high is a program of a height.
func high(height int) []api.Node {
	inner := of(api.ENil, "")
	for range height - 6 {
		inner = of(api.ETuple, "", inner)
	}
	l, _ := laid(inBody(inner))
	return l
}

// inBody is a program with one function, f/0, that has just this expression.
func inBody(inner *tree) *tree {
	return of(api.NProgram, "", of(api.NModule, "m", of(api.NFunction, "f", of(api.NClause, "f", of(api.NArgs, ""), of(api.NBody, "", inner)))))
}

// P12.1: each number of parse.Check, its fault under, at its place, 0, whatever places the nodes have; ahead of nodes that stand at two places, and of all rules.
func TestCheckTree(t *testing.T) {
	tree := byParse(api.ErrTree)
	for _, root := range []int{-1, 0, 1, math.MaxInt, math.MinInt} {
		refuses(t, "no nodes", nil, root, tree...)
		refuses(t, "no nodes", []api.Node{}, root, tree...)
	}
	l := small()
	last := len(l) - 1
	if seen, err := check.Check(l, last); err != nil || len(seen) != len(l) {
		t.Fatal(seen, err)
	}
	for root := -2; root < len(l)+2; root++ {
		if root != last {
			refuses(t, fmt.Sprint("another root, ", root), l, root, tree...)
		}
	}
	for i := range l {
		for _, change := range []func(n *api.Node){
			func(n *api.Node) { n.Kind = 0 }, func(n *api.Node) { n.Kind = 30 }, func(n *api.Node) { n.Mod = "\xff" }, func(n *api.Node) { n.Int = -1 }, func(n *api.Node) { n.Kids = append(n.Kids, len(l)) },
			func(n *api.Node) { n.Kids = append(n.Kids, i) }, func(n *api.Node) { n.Kids = append(n.Kids, -1) },
		} {
			odd := copied(l)
			change(&odd[i])
			refuses(t, "no tree", odd, last, tree...)
		}
	}
	refuses(t, "65537 nodes", wide(65537), 65536, byParse(api.ErrMany)...)
	refuses(t, "height 501", high(501), 501, byParse(api.ErrNest)...)
	if seen, err := check.Check(wide(65536), 65535); err != nil || len(seen) != 65536 {
		t.Errorf("65536 nodes: %d, %v", len(seen), err)
	}
	if seen, err := check.Check(high(500), 500); err != nil || len(seen) != 501 {
		t.Errorf("height 500: %d, %v", len(seen), err)
	}

	odd := small()
	odd[last-1].Text, odd[last-1].Kids = "erlang", []int{last - 2, last - 2}
	refuses(t, "a node twice", odd, last, faulty(0, api.ErrTwice))
	odd[0].Int = 1
	refuses(t, "a node twice, no tree", odd, last, tree...)
	for _, c := range []struct {
		l    []api.Node
		code api.Errno
	}{{wide(65537), api.ErrMany}, {high(501), api.ErrNest}} {
		program := &c.l[len(c.l)-1]
		program.Kids = append(program.Kids, program.Kids[0])
		c.l[len(c.l)-2].Text = "erlang"
		refuses(t, "a module twice, and too much", c.l, len(c.l)-1, byParse(c.code)...)
	}
}

// P12.1: a node that stands at two places, of one node or of two, whatever it is; ahead of all rules. Nodes that are not reached stand nowhere.
func TestCheckTwoPlaces(t *testing.T) {
	l, root := nodes(t, allKinds)
	for i, n := range l {
		for k := range n.Kids {
			odd := copied(l)
			odd[i].Kids = slices.Insert(odd[i].Kids, k, n.Kids[k])
			// Not all Kids may be doubled; where they may, the tree is right, but no program.
			if parse.Check(odd, root) == nil {
				refuses(t, fmt.Sprintf("Kid %d of %+v twice", k, n), odd, root, faulty(0, api.ErrTwice))
			}
		}
		if n.Kind < api.EInt || n.Kind > api.EOrElse {
			continue
		}
		// An expression at a place behind, where another one stood.
		for above := i + 1; above < len(l); above++ {
			for k, kid := range l[above].Kids {
				if kid != i && l[kid].Kind == api.EInt {
					odd := copied(l)
					odd[above].Kids[k] = i
					refuses(t, fmt.Sprintf("%+v below %+v", n, odd[above]), odd, root, faulty(0, api.ErrTwice))
				}
			}
		}
	}
	doubled := []api.Node{{Kind: api.EVar, Text: "X", At: 7}}
	for i := range 490 {
		doubled = append(doubled, api.Node{Kind: api.ETuple, Kids: []int{i, i}, At: 7})
	}
	doubled = append(doubled, api.Node{Kind: api.NBody, Kids: []int{490}}, api.Node{Kind: api.NArgs}, api.Node{Kind: api.NClause, Text: "f", Kids: []int{492, 491}}, api.Node{Kind: api.NFunction, Text: "f", Kids: []int{493}}, api.Node{Kind: api.NModule, Text: "erlang", Kids: []int{494}}, api.Node{Kind: api.NProgram, Kids: []int{495}})
	refuses(t, "each node twice", doubled, 496, faulty(0, api.ErrTwice))

	beside := append(copied(l), api.Node{Kind: api.NProgram, Kids: []int{root - 1, root - 1, root}}, api.Node{Kind: api.ETuple, Kids: []int{0, 0, 1}})
	if seen, err := check.Check(beside, root); err != nil || len(seen) != len(beside) {
		t.Errorf("nodes that are not reached: %v", err)
	}
}

// allKinds has nodes of all kinds, and is right.
const allKinds = "-module(m). -export([f/1, f/2]). f(X) when X, 1; not 2 -> {a, 'b c', 3}, [1, 2], [3 | X]; f({}) -> A = 4, case A of 5 when 6 -> 7; 8 -> 9 end, begin 10, 11 end, try 12 catch 13 -> 14; error:15 when 16 -> 17; _:18 -> 19 end, g ! [], receive 20 -> 21; 22 -> 23 after 24 -> 25 end, f(26), m:f(), f(27, 28), not 29, 30 + 31, 32 andalso 33, 34 orelse 35. f(_, _) -> self(). -module(n)."

// P12.1: names of modules.
func TestCheckModules(t *testing.T) {
	for _, s := range []string{
		"-module(m).", "-module('').", "-module('Erlang').", "-module(erlan).", "-module(m). -module(n). -module(k).", "-module(m). f() -> 1. -module(n). f() -> 2.", "-module(m). -module('M'). -module('m ').",
	} {
		program(t, api.OK, s)
	}
	for _, s := range []string{
		"^-module(erlang).", "^-module('erlang').", "-module(m). ^-module(erlang).", "-module(m). ^-module(m).", "-module(m). -module(n). ^-module(m).", "-module(m). ^-module(m). -module(m).", "-module(''). ^-module('').",
		"^-module(erlang). -module(erlang).", "-module(m). ^-module(m). -module(erlang).", "-module(m). ^-module(erlang). -module(m).", "-module(m). f() -> 1.\n ^-module(m). g() -> 2.",
	} {
		program(t, api.ErrModule, s)
	}
}

// P12.1: exports, of functions ahead and behind, twice, in several lists; of none, of other arities, of other modules.
func TestCheckExports(t *testing.T) {
	for _, s := range []string{
		"-export([]).", "-export([f/0]). f() -> 1.", "f() -> 1. -export([f/0]).", "-export([f/0, g/1, f/0]). f() -> 1. g(X) -> X. -export([g/1]).", "-export([f/2]). f() -> 1. f(_, _) -> 2.", "-export([''/0]). '' () -> 1.", "-export([self/0, abs/1]). self() -> 1. abs(X) -> X.",
	} {
		forms(t, api.OK, s)
	}
	for _, s := range []string{
		"-export([^f/0]).", "-export([f/0, ^g/0]). f() -> 1.", "-export([^f/1]). f() -> 1.", "-export([^f/0]). f(_) -> 1.", "f() -> 1. -export([^g/0]).", "f() -> 1. -export([f/0]). -export([^f/576460752303423487]).", "-export([^self/0]). f() -> self().", "-export([^'F'/0]). f() -> 1.",
		"-export([^f/256]). f() -> 1.", "-export([^f/4294967296]). f() -> 1.", "-export([f/0, ^g/0, h/0]). f() -> 1.", "-export([^f/0]). -module(n). f() -> 1.",
	} {
		forms(t, api.ErrExport, s)
	}
	program(t, api.ErrExport, "-module(m). f() -> 1. -module(n). -export([^f/0]).")
}

// P12.1: functions of one name and arity.
func TestCheckFunctions(t *testing.T) {
	for _, s := range []string{"f() -> 1.", "f() -> 1. f(_) -> 2. f(_, _) -> 3.", "f() -> 1. g() -> 2. 'F'() -> 3. ''() -> 4.", "f(1) -> 1; f(2) -> 2; f(3) -> 3.", "abs(X) -> X. self() -> 1."} {
		forms(t, api.OK, s)
	}
	for _, s := range []string{"f() -> 1. ^f() -> 2.", "f() -> 1. g() -> 2. ^f() -> 3.", "f() -> 1. ^f() -> 2. f() -> 3.", "f(_) -> 1. f() -> 2. ^f(X) -> X.", "f(1) -> 1; f(2) -> 2. ^f(3) -> 3; f(4) -> 4.", "''() -> 1. ^''() -> 2."} {
		forms(t, api.ErrTwice, s)
	}
	program(t, api.OK, "-module(m). f() -> 1. -module(n). f() -> 2.")
	program(t, api.ErrTwice, "-module(m). f() -> 1. -module(n). f() -> 2. ^f() -> 3.")
}

// some is a phrase so many times, with commas between.
func some(n int, phrase string) string {
	return strings.TrimSuffix(strings.Repeat(phrase+", ", n), ", ")
}

// P12.1: 255 arguments, and one more: of functions, of calls of functions, of built-ins, of other modules.
func TestCheckArity(t *testing.T) {
	most, more := some(255, "1"), some(256, "1")
	forms(t, api.OK, "f("+most+") -> 1.")
	forms(t, api.OK, "f("+some(255, "_")+") -> 1. -export([f/255]).")
	forms(t, api.ErrArity, "^f("+more+") -> 1.")
	forms(t, api.ErrArity, "g() -> 1. ^f("+some(300, "_")+") -> X. h() -> Y.")
	forms(t, api.ErrArity, "-export([f/256]). ^f("+more+") -> 1; f(1) -> 2.")
	forms(t, api.ErrClause, "f("+most+") -> 1; ^f("+more+") -> 1.")
	forms(t, api.ErrTwice, "g(_) -> 1. ^g(_) -> 1. f("+more+") -> 1.")

	forms(t, api.OK, "f() -> g("+most+"). g("+most+") -> 1.")
	forms(t, api.ErrArity, "f() -> ^g("+more+"). g("+more+") -> 1.")
	body(t, api.OK, "k:h("+most+")")
	body(t, api.ErrArity, "^k:h("+more+")")
	body(t, api.ErrUnknown, "^h("+most+")")
	body(t, api.ErrArity, "^h("+more+")")
	body(t, api.ErrUnknown, "^self("+most+")")
	body(t, api.ErrArity, "^self("+more+")")
	body(t, api.ErrUnknown, "^erlang:self("+most+")")
	body(t, api.ErrArity, "^erlang:self("+more+")")
	// Ahead of its arguments.
	body(t, api.ErrArity, "^k:h(X, "+more+")")
	body(t, api.ErrUnbound, "k:h(^X, "+some(254, "1")+")")
	// Tuples and lists are not bounded so.
	body(t, api.OK, "{"+some(300, "V")+"}, ["+some(300, "V")+"], {"+some(300, "_")+"} = V")
	// In patterns and guards no call of so many arguments may stand anyhow.
	body(t, api.ErrPattern, "^k:h("+more+") = 1")
	forms(t, api.ErrGuard, "f() when ^h("+more+") -> 1.")
	forms(t, api.ErrGuard, "f() when ^erlang:self("+more+") -> 1.")
}

// P12.1: clauses of another name, or with another number of arguments, than the first.
func TestCheckClauses(t *testing.T) {
	for _, s := range []string{
		"f(1) -> 1; ^g(2) -> 2.", "f(1) -> 1; ^f() -> 2.", "f() -> 1; ^f(1) -> 2.", "f(1) -> 1; f(2) -> 2; ^f(3, 4) -> 3.", "f(1) -> 1; ^g(2) -> 2; f() -> 3.", "f(1) -> 1; ^g() -> X; f(Y) -> Z.", "f() -> 1; ^''() -> 2.", "g() -> 1. f(1) -> 1; ^g() -> 2.",
		"f() -> 1; ^g(1 + 1) -> 2.", "f() -> 1; ^f(X) when h() -> Y.",
	} {
		forms(t, api.ErrClause, s)
	}
}

// P12.1: of two faults the one that comes first by the chapter's order.
func TestCheckWhichFirst(t *testing.T) {
	// Modules' names come ahead of all that is in any module; then all is asked module by module.
	program(t, api.ErrModule, "-module(m). f() -> X. -export([g/0]). ^-module(m).")
	program(t, api.ErrModule, "-module(m). f() -> 1. f() -> 2. -module(n). f() -> X. ^-module(erlang).")
	program(t, api.ErrModule, "^-module(erlang). f() -> X.")
	program(t, api.ErrUnbound, "-module(m). f() -> ^X. -module(n). -export([g/0]).")
	program(t, api.ErrExport, "-module(m). -export([^g/0]). f() -> X. -module(n). f() -> Y.")
	program(t, api.ErrUnknown, "-module(m). f() -> 1. -module(n). f() -> ^g(). -module(k). f() -> g(). g() -> X.")

	// Exports and functions, as they stand.
	forms(t, api.ErrUnbound, "f() -> ^X. -export([g/0]).")
	forms(t, api.ErrExport, "-export([^g/0]). f() -> X.")
	forms(t, api.ErrExport, "f() -> 1. -export([f/0, ^g/0]). f() -> 2.")
	forms(t, api.ErrTwice, "f() -> 1. ^f() -> 2. -export([g/0]).")
	forms(t, api.ErrUnbound, "f() -> ^X. f() -> 2.")
	forms(t, api.ErrTwice, "f() -> 1. ^f() -> X.")
	forms(t, api.ErrTwice, "f() -> 1. ^f() -> X; g() -> 1.")
	forms(t, api.ErrUnsafe, "f(A) -> A andalso (B = 1), ^B. g() -> X.")
	forms(t, api.ErrUnbound, "g() -> ^X. f(A) -> A andalso (B = 1), B.")
	forms(t, api.ErrTwice, "f() -> 1. ^f() -> 1. g("+some(256, "_")+") -> 1.")
	forms(t, api.ErrArity, "^g("+some(256, "_")+") -> 1. f() -> 1. f() -> 1.")
	forms(t, api.ErrArity, "^g("+some(256, "1 + 1")+") -> X; h() -> 1.")

	// Clause by clause, each with what its ways meet.
	forms(t, api.ErrUnbound, "f() -> ^X; g() -> 1.")
	forms(t, api.ErrPattern, "f(^h()) -> 1; f() -> 1.")
	forms(t, api.ErrClause, "f() -> 1; ^g() -> 1; f() -> X.")
	forms(t, api.ErrUnbound, "f() -> 1; f() -> ^X; f() -> h().")
	forms(t, api.ErrUnknown, "f() -> 1; f() -> ^h(); f() -> X.")

	// Patterns, guard, body; from the left; of a match the expression.
	forms(t, api.ErrPattern, "f(^g()) when g() -> g().")
	forms(t, api.ErrPattern, "f(1, ^k:g(), 1 + 1) -> 1.")
	forms(t, api.ErrGuard, "f(X) when ^g() -> g().")
	forms(t, api.ErrGuard, "f(X) when 1; 2, (Y ^= 1), Z -> g().")
	forms(t, api.ErrUnbound, "f(X) when ^Z, g() -> g().")
	forms(t, api.ErrUnknown, "f(X) -> ^g(Y), Z.")
	forms(t, api.ErrUnbound, "f(X) -> ^Z, g(Y).")
	forms(t, api.ErrUnknown, "f(X) -> (1 + 1) = ^g().")
	forms(t, api.ErrPattern, "f(X) -> (1 ^+ Y) = X, g().")
	forms(t, api.ErrUnbound, "f(X) -> Y = X = ^Z.")
	forms(t, api.ErrUnbound, "f(X) -> {Y = 1, ^Z, Y, g()}.")
	forms(t, api.ErrUnknown, "f(X) -> case ^g() of Y when g() -> Z end.")
	forms(t, api.ErrGuard, "f(X) -> case X of Y when ^g() -> Z end, g().")
	forms(t, api.ErrUnbound, "f(X) -> receive 1 -> 2; Y when Y -> ^Z after U -> g() end.")
	forms(t, api.ErrUnbound, "f(X) -> receive 1 -> 2; Y when Y -> 3 after ^U -> g() end.")
	forms(t, api.ErrUnbound, "f(X) -> try ^Y catch 1 + 1 -> 2 end.")
	forms(t, api.ErrPattern, "f(X) -> try 1 catch 1 ^+ 1 when g() -> Z end.")
	forms(t, api.ErrUnbound, "f(X) -> ^Y ! g().")
	forms(t, api.ErrUnknown, "f(X) -> ^g() ++ Y.")
	forms(t, api.ErrUnbound, "f(X) -> ^Y orelse g().")
	forms(t, api.ErrGuard, "f(X) when Y ^++ Z -> 1.")
	forms(t, api.ErrGuard, "f(X) when ^g(Z) -> 1.")
	forms(t, api.ErrUnbound, "f(X) when abs(^Z) -> 1.")
	forms(t, api.ErrUnbound, "f(X) when {1, ^Z, Y ++ X} -> 1.")
	forms(t, api.ErrGuard, "f(X) when {1, Z ^++ X, Y} -> 1.")
}
