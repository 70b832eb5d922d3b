package parse_test

import (
	"math/rand"
	"slices"
	"strconv"
	"strings"
	"testing"

	"heddle/api"
	"heddle/lex"
	"heddle/parse"
	"heddle/sample"
)

// inBody is a program with an expression as its only body, and how the tree of it is written.
func inBody(s string) string { return "-module(m). f() -> " + s + "." }

func aroundBody(s string) string {
	return "program(module m(function f(clause f(args, body(" + s + ")))))"
}

// is holds an expression's tree against what it must be.
func is(t *testing.T, s, want string) {
	t.Helper()
	if got := write(read(t, inBody(s)), false); got != aroundBody(want) {
		t.Errorf("%s: %s, not %s", cut(s), cut(got), cut(want))
	}
}

// reads holds a program's tree against what it must be.
func reads(t *testing.T, s, want string) {
	t.Helper()
	if got := write(read(t, s), false); got != want {
		t.Errorf("%s: %s, not %s", cut(s), cut(got), cut(want))
	}
}

// stops: the tokens of a text have their first wrong one, or their end too early, at a number.
func stops(t *testing.T, s string, at int) {
	t.Helper()
	if nodes, root, err := parse.Parse(tokensOf(t, s)); !isRefused(nodes, root, err, faulty(at, api.ErrSyntax)) {
		t.Errorf("%s: %d nodes, %v, not at %d", cut(s), len(nodes), err, at)
	}
}

// badBody: the wrong token of an expression in a body stands at a number, from the expression on.
func badBody(t *testing.T, s string, at int) {
	t.Helper()
	stops(t, inBody(s), 10+at)
}

// tokensOf is the tokens of a text.
func tokensOf(t *testing.T, s string) []api.Token {
	t.Helper()
	l, err := lex.Scan(s)
	if err != nil {
		t.Fatalf("%s: %v", cut(s), err)
	}
	return l
}

// The chapter's examples.
func TestExamples(t *testing.T) {
	reads(t, "-module(m). f(X) -> X + 1.", "program(module m(function f /1(clause f(args(X), body(binary +(X, 1))))))")
	is(t, "A = B ! C = D", "match(A, send(B, match(C, D)))")
	badBody(t, "1 < 2 < 3", 3)
	is(t, "try f() catch error:X -> X; Y -> Y end", "try(body(call f), clause error(X, body(X)), clause throw(Y, body(Y)))")
}

// P11.1: programs, modules, forms.
func TestForms(t *testing.T) {
	reads(t, "-module(m).", "program(module m)")
	reads(t, "-module(''). ", "program(module)")
	reads(t, "-module('end'). -module(m). -module(m).", "program(module end, module m, module m)")
	reads(t, "-module(module). -export([]). -module(export). -export([]).", "program(module module, module export)")
	reads(t, "-module(m). -export([f/0]).", "program(module m(export f))")
	reads(t, "-module(m). -export([f/0, ''/576460752303423487, 'a b'/3]). -export([]). -export([f/1]).", "program(module m(export f, export /576460752303423487, export a b /3, export f /1))")
	reads(t, "-module(m). f() -> a. -export([f/0]). g(X, _) -> X. -module(n). f() -> 1.", "program(module m(function f(clause f(args, body(a))), export f, function g /2(clause g(args(X, _), body(X)))), module n(function f(clause f(args, body(1)))))")
	reads(t, "-module(m). f(1) -> a; f(X) when X -> b, c; g() -> d.", "program(module m(function f /1(clause f(args(1), body(a)), clause f(args(X), guard(conj(X)), body(b, c)), clause g(args, body(d)))))")
	reads(t, "-module(m). ''() -> a.", "program(module m(function(clause(args, body(a)))))")
	reads(t, "-module(m). f(A, B, C) when A, B; C; 1, 2, 3 -> ok.", "program(module m(function f /3(clause f(args(A, B, C), guard(conj(A, B), conj(C), conj(1, 2, 3)), body(ok)))))")
	reads(t, "-module(m). f({X, 1} = Y, g() + 2, case a of b -> c end) -> X.", "program(module m(function f /3(clause f(args(match(tuple(X, 1), Y), binary +(call g, 2), case(a, clause(b, body(c)))), body(X)))))")
}

// P11.1: `module`, `export`, `throw`, `error`, `exit` as atoms elsewhere.
func TestWordsThatAreAtoms(t *testing.T) {
	for _, name := range []string{"module", "export", "throw", "error", "exit"} {
		reads(t, strings.ReplaceAll("-module(W). -export([W/1]). W(W) when W -> W; W(W()) -> W:W(W). W() -> [W | {W, W}].", "W", name),
			strings.ReplaceAll("program(module W(export W /1, function W /1(clause W(args(W), guard(conj(W)), body(W)), clause W(args(call W), body(call W: W(W)))), function W(clause W(args, body(list(W, tuple(W, W)))))))", "W", name))
		reads(t, "-module(m). "+name+"() -> - "+name+".", "program(module m(function "+name+"(clause "+name+"(args, body(unary -("+name+"))))))")
	}
	stops(t, "-export(m).", 1)
	stops(t, "-throw(m).", 1)
	stops(t, "-module(m). -throw([f/1]).", 7)
	stops(t, "-module(m). - - export([f/1]).", 7)
	stops(t, "-'Module'(m).", 1)
	reads(t, "-'module'('m'). -'export'(['f'/0]).", "program(module m(export f))")
}

// P11.1: each choice of an expression without an operator.
func TestSingles(t *testing.T) {
	is(t, "0", "0")
	is(t, "576460752303423487", "576460752303423487")
	is(t, "$a", "97")
	is(t, "X", "X")
	is(t, "_", "_")
	is(t, "a", "a")
	is(t, "''", "atom")
	is(t, "'end'", "end")
	is(t, "f()", "call f")
	is(t, "f(1)", "call f(1)")
	is(t, "''(1, X, y)", "call(1, X, y)")
	is(t, "m:f()", "call m: f")
	is(t, "m:''(1, 2)", "call m:(1, 2)")
	is(t, "'a b':'c d'(X)", "call a b: c d(X)")
	is(t, "(1)", "1")
	is(t, "(((X)))", "X")
	is(t, "(f)", "f")
	is(t, "{}", "tuple")
	is(t, "{1}", "tuple(1)")
	is(t, "{1, {}, {X}}", "tuple(1, tuple, tuple(X))")
	is(t, "[]", "nil")
	is(t, "[1]", "list(1, nil)")
	is(t, "[1, 2, 3]", "list(1, 2, 3, nil)")
	is(t, "[1 | 2]", "list(1, 2)")
	is(t, "[1, 2 | []]", "list(1, 2, nil)")
	is(t, "[1 | [2 | [3]]]", "list(1, list(2, list(3, nil)))")
	is(t, "[[]]", "list(nil, nil)")
	is(t, "[A = B | C = D]", "list(match(A, B), match(C, D))")
	is(t, "begin 1 end", "begin(body(1))")
	is(t, "begin 1, X = 2, 3 end", "begin(body(1, match(X, 2), 3))")
	is(t, "f(A = B, C ! D)", "call f(match(A, B), send(C, D))")
	is(t, "{A = B, begin C end}", "tuple(match(A, B), begin(body(C)))")
}

// P11.1: case, receive and try.
func TestBlocks(t *testing.T) {
	is(t, "case a of b -> c end", "case(a, clause(b, body(c)))")
	is(t, "case A = B of C = D -> E = F end", "case(match(A, B), clause(match(C, D), body(match(E, F))))")
	is(t, "case X of 1 -> a; Y when Y -> b, c; _ when 1, 2; 3 -> d end", "case(X, clause(1, body(a)), clause(Y, guard(conj(Y)), body(b, c)), clause(_, guard(conj(1, 2), conj(3)), body(d)))")
	is(t, "receive X -> 1 end", "receive(clause(X, body(1)))")
	is(t, "receive X -> 1; Y when Z -> 2 end", "receive(clause(X, body(1)), clause(Y, guard(conj(Z)), body(2)))")
	is(t, "receive after 10 -> 1, 2 end", "receive(after(10, body(1, 2)))")
	is(t, "receive X -> 1; Y -> 2 after A = B -> C end", "receive(clause(X, body(1)), clause(Y, body(2)), after(match(A, B), body(C)))")
	is(t, "receive X -> receive after 1 -> 2 end after 3 -> 4 end", "receive(clause(X, body(receive(after(1, body(2))))), after(3, body(4)))")
	is(t, "try 1, 2 catch X -> 3 end", "try(body(1, 2), clause throw(X, body(3)))")
	is(t, "try 1 catch throw:A -> a; error:B when B -> b; exit:C -> c; _:D -> d; E -> e end", "try(body(1), clause throw(A, body(a)), clause error(B, guard(conj(B)), body(b)), clause exit(C, body(c)), clause _(D, body(d)), clause throw(E, body(e)))")
	is(t, "case case a of b -> c end of d -> begin e end end", "case(case(a, clause(b, body(c))), clause(d, body(begin(body(e)))))")
	is(t, "case a of b -> c; d -> case e of f -> g; h -> i end; j -> k end", "case(a, clause(b, body(c)), clause(d, body(case(e, clause(f, body(g)), clause(h, body(i))))), clause(j, body(k)))")
	badBody(t, "case a of end", 3)
	badBody(t, "case a of b -> c; end", 7)
	badBody(t, "case of", 1)
	badBody(t, "case a, b of c -> d end", 2)
	badBody(t, "receive end", 1)
	badBody(t, "receive X -> 1; after 2 -> 3 end", 5)
	badBody(t, "receive after 1 -> 2; X -> 3 end", 5)
	badBody(t, "receive after 1 -> 2 after 3 -> 4 end", 5)
	badBody(t, "receive after 1, 2 -> 3 end", 3)
	badBody(t, "receive after X when Y -> 1 end", 3)
	badBody(t, "try 1 catch end", 3)
	badBody(t, "try catch X -> 1 end", 1)
	badBody(t, "try 1 end", 2)
	badBody(t, "try 1 of X -> 2 catch Y -> 3 end", 2)
	badBody(t, "try 1 catch X -> 2 after 3 end", 6)
	badBody(t, "begin end", 1)
	badBody(t, "begin 1; 2 end", 2)
	badBody(t, "if a -> b end", 0)
	badBody(t, "fun f", 0)
	badBody(t, "catch f()", 0)
}

// P11.1: a class stands only where one of four has `:` behind it.
func TestClasses(t *testing.T) {
	for _, class := range []string{"throw", "error", "exit", "_"} {
		is(t, "try 1 catch "+class+":X -> 2 end", "try(body(1), clause "+class+"(X, body(2)))")
		is(t, "try 1 catch "+class+":f(X) -> 2 end", "try(body(1), clause "+class+"(call f(X), body(2)))")
		is(t, "try 1 catch "+class+":m:f(X) -> 2 end", "try(body(1), clause "+class+"(call m: f(X), body(2)))")
		is(t, "try 1 catch "+class+":throw:f(X) -> 2 end", "try(body(1), clause "+class+"(call throw: f(X), body(2)))")
		is(t, "try 1 catch "+class+" -> 2 end", "try(body(1), clause throw("+class+", body(2)))")
		is(t, "try 1 catch "+class+" = X -> 2 end", "try(body(1), clause throw(match("+class+", X), body(2)))")
		is(t, "try 1 catch "+class+" when a -> 2 end", "try(body(1), clause throw("+class+", guard(conj(a)), body(2)))")
		is(t, "try 1 catch "+class+":"+class+" -> 2; "+class+" -> 3 end", "try(body(1), clause "+class+"("+class+", body(2)), clause throw("+class+", body(3)))")
		badBody(t, "try 1 catch ("+class+":X) -> 2 end", map[bool]int{false: 6, true: 5}[class == "_"])
		badBody(t, "try 1 catch "+class+":_:X -> 2 end", 6)
		badBody(t, "try 1 catch "+class+": -> 2 end", 5)
		badBody(t, "case 1 of "+class+":X -> 2 end", map[bool]int{false: 5, true: 4}[class == "_"])
		badBody(t, "try "+class+":X catch _ -> 2 end", map[bool]int{false: 3, true: 2}[class == "_"])
		badBody(t, class+":X", map[bool]int{false: 2, true: 1}[class == "_"])
	}
}

// P11.1: what is not just one of the four, with nothing about it, is no class.
func TestNoClasses(t *testing.T) {
	badBody(t, "try 1 catch (throw):X -> 2 end", 6)
	badBody(t, "try 1 catch m:X -> 2 end", 5)
	badBody(t, "try 1 catch '_':X -> 2 end", 5)
	badBody(t, "try 1 catch X:Y -> 2 end", 4)
	badBody(t, "try 1 catch _X:Y -> 2 end", 4)
	badBody(t, "try 1 catch '':Y -> 2 end", 4)
	badBody(t, "try 1 catch 1:Y -> 2 end", 4)
	badBody(t, "try 1 catch -throw:Y -> 2 end", 6)
	is(t, "try 1 catch m:f(X) -> 2 end", "try(body(1), clause throw(call m: f(X), body(2)))")
	is(t, "try 1 catch '_':f(X) -> 2 end", "try(body(1), clause throw(call _: f(X), body(2)))")
	is(t, "try 1 catch (throw:f(X)) -> 2 end", "try(body(1), clause throw(call throw: f(X), body(2)))")
	is(t, "try 1 catch -throw:f(X) -> 2 end", "try(body(1), clause throw(unary -(call throw: f(X)), body(2)))")
	is(t, "try throw:f(X) catch X -> exit:g() end", "try(body(call throw: f(X)), clause throw(X, body(call exit: g)))")
	is(t, "case error:f() of exit:g() -> throw:h() end", "case(call error: f, clause(call exit: g, body(call throw: h)))")
}

// P11.1: calls: ahead of `:` the empty atom may not stand, and arguments stand behind every function of a module.
func TestCalls(t *testing.T) {
	badBody(t, "'':f()", 1)
	badBody(t, "m:f", 3)
	stops(t, "-module(m). f() -> m:f. g() -> a.", 13)
	badBody(t, "m:X()", 2)
	badBody(t, "m:1", 2)
	badBody(t, "X:f()", 1)
	badBody(t, "X()", 1)
	badBody(t, "1()", 1)
	badBody(t, "(f)()", 3)
	badBody(t, "f()()", 3)
	badBody(t, "m:f:g()", 3)
	badBody(t, "f():g()", 3)
	badBody(t, "f(,)", 2)
	badBody(t, "f(1,)", 4)
	badBody(t, "f(1 2)", 3)
	badBody(t, "f(1; 2)", 3)
	badBody(t, "f(", 2)
}

// operators are those between two, level by level as the grammar has them; how a level's stand in a row.
var operators = []struct {
	texts []string
	row   string
}{
	{[]string{"=", "!"}, "right"},
	{[]string{"orelse"}, "right"},
	{[]string{"andalso"}, "right"},
	{[]string{"==", "/=", "=<", "<", ">=", ">", "=:=", "=/="}, "none"},
	{[]string{"++", "--"}, "right"},
	{[]string{"+", "-", "or", "xor"}, "left"},
	{[]string{"*", "div", "rem", "and"}, "left"},
}

func nodeOf(operator string) string {
	switch operator {
	case "=":
		return "match"
	case "!":
		return "send"
	case "orelse", "andalso":
		return operator
	}
	return "binary " + operator
}

// P11.1: each operator; each two of them, and which binds more.
func TestOperators(t *testing.T) {
	for i, first := range operators {
		for _, one := range first.texts {
			is(t, "A "+one+" B", nodeOf(one)+"(A, B)")
			for k, second := range operators {
				for _, two := range second.texts {
					s := "A " + one + " B " + two + " C"
					left := nodeOf(two) + "(" + nodeOf(one) + "(A, B), C)"
					right := nodeOf(one) + "(A, " + nodeOf(two) + "(B, C))"
					is(t, "(A "+one+" B) "+two+" C", left)
					is(t, "A "+one+" (B "+two+" C)", right)
					switch {
					case i > k || i == k && first.row == "left":
						is(t, s, left)
					case i < k || first.row == "right":
						is(t, s, right)
					default:
						badBody(t, s, 3)
					}
				}
			}
		}
	}
}

// P11.1: three operators in a row, also with comparisons that others stand between.
func TestOperatorsInRows(t *testing.T) {
	is(t, "A = B < C = D", "match(A, match(binary <(B, C), D))")
	is(t, "A < B = C < D", "match(binary <(A, B), binary <(C, D))")
	is(t, "A < B andalso C < D orelse E < F", "orelse(andalso(binary <(A, B), binary <(C, D)), binary <(E, F))")
	is(t, "A orelse B orelse C", "orelse(A, orelse(B, C))")
	is(t, "A andalso B orelse C andalso D orelse E", "orelse(andalso(A, B), orelse(andalso(C, D), E))")
	is(t, "A + B - C or D xor E", "binary xor(binary or(binary -(binary +(A, B), C), D), E)")
	is(t, "A * B div C rem D and E", "binary and(binary rem(binary div(binary *(A, B), C), D), E)")
	is(t, "A ++ B -- C ++ D", "binary ++(A, binary --(B, binary ++(C, D)))")
	is(t, "A + B * C - D", "binary -(binary +(A, binary *(B, C)), D)")
	is(t, "A * B + C * D ++ E * F + G == H ++ I", "binary ==(binary ++(binary +(binary *(A, B), binary *(C, D)), binary +(binary *(E, F), G)), binary ++(H, I))")
	is(t, "A == (B == C)", "binary ==(A, binary ==(B, C))")
	is(t, "a -module(m)", "binary -(a, call module(m))")
	is(t, "f(A) ! B = C", "send(call f(A), match(B, C))")
	is(t, "A = B = C ! D ! E", "match(A, match(B, send(C, send(D, E))))")
	badBody(t, "A = B < C > D", 5)
	badBody(t, "A < B + C < D", 5)
	badBody(t, "A + B < C ++ D == E", 7)
	badBody(t, "A orelse B == C == D", 5)
	badBody(t, "A < B = C < D < E", 7)
	badBody(t, "A < B andalso C =:= D =/= E", 7)
	badBody(t, "f(A < B < C)", 5)
	badBody(t, "-A < -B < C", 5)
	badBody(t, "A = < B", 2)
	badBody(t, "A * * B", 2)
	badBody(t, "A ++ ++ B", 2)
	badBody(t, "A andalso orelse B", 2)
	badBody(t, "= A", 0)
	badBody(t, "* A", 0)
	badBody(t, "-- A", 0)
	badBody(t, "A B", 1)
	badBody(t, "A not B", 1)
	badBody(t, "A +", 2)
	badBody(t, "A / B", 1)
	badBody(t, "A | B", 1)
	badBody(t, "A -> B", 1)
	badBody(t, "A when B", 1)
}

// P11.1: operators ahead of one expression bind more than all others.
func TestUnary(t *testing.T) {
	is(t, "-1", "unary -(1)")
	is(t, "- - 1", "unary -(unary -(1))")
	is(t, "+ - not not X", "unary +(unary -(unary not(unary not(X))))")
	is(t, "-f(X)", "unary -(call f(X))")
	is(t, "not m:f(X)", "unary not(call m: f(X))")
	is(t, "-(A + B)", "unary -(binary +(A, B))")
	is(t, "-[]", "unary -(nil)")
	is(t, "not begin a end", "unary not(begin(body(a)))")
	for _, level := range operators {
		for _, one := range level.texts {
			for _, unary := range []string{"+", "-", "not"} {
				is(t, unary+" A "+one+" B", nodeOf(one)+"(unary "+unary+"(A), B)")
				is(t, "A "+one+" "+unary+" B", nodeOf(one)+"(A, unary "+unary+"(B))")
				is(t, "A "+one+" "+unary+" + B * C", map[bool]string{true: "binary *(" + nodeOf(one) + "(A, unary " + unary + "(unary +(B))), C)", false: nodeOf(one) + "(A, binary *(unary " + unary + "(unary +(B)), C))"}[one == "*" || one == "div" || one == "rem" || one == "and"])
				is(t, unary+" (A "+one+" B)", "unary "+unary+"("+nodeOf(one)+"(A, B))")
			}
		}
	}
}

// P11.1: lists, tuples, arguments, exports: what may not stand in them.
func TestBrackets(t *testing.T) {
	badBody(t, "[1, ]", 3)
	badBody(t, "[, 1]", 1)
	badBody(t, "[| 1]", 1)
	badBody(t, "[1 | ]", 3)
	badBody(t, "[1 | 2, 3]", 4)
	badBody(t, "[1 | 2 | 3]", 4)
	badBody(t, "[1 2]", 2)
	badBody(t, "[1; 2]", 2)
	badBody(t, "[1)", 2)
	badBody(t, "{1 | 2}", 2)
	badBody(t, "{1, }", 3)
	badBody(t, "{, }", 1)
	badBody(t, "{1]", 2)
	badBody(t, "()", 1)
	badBody(t, "(1, 2)", 2)
	badBody(t, "(1", 2)
	badBody(t, "(1]", 2)
	badBody(t, "1)", 1)
	badBody(t, "]", 0)
	badBody(t, ")", 0)
	badBody(t, "1,", 2)
	badBody(t, ", 1", 0)
	badBody(t, "1; 2", 2)
	badBody(t, "", 0)
	stops(t, "-module(m). -export([f/0, ]).", 14)
	stops(t, "-module(m). -export([, f/0]).", 10)
	stops(t, "-module(m). -export([f]).", 11)
	stops(t, "-module(m). -export([f/X]).", 12)
	stops(t, "-module(m). -export([f/a]).", 12)
	stops(t, "-module(m). -export([X/0]).", 10)
	stops(t, "-module(m). -export([f/-1]).", 12)
	stops(t, "-module(m). -export([f/0 g/1]).", 13)
	stops(t, "-module(m). -export([f/0 | g]).", 13)
	stops(t, "-module(m). -export(f/0).", 9)
	stops(t, "-module(m). -export([f/0]), -export([]).", 15)
	stops(t, "-module(m). -export([]) f() -> a.", 12)
}

// P11.1: programs whose forms are none.
func TestNoForms(t *testing.T) {
	stops(t, "", 0)
	stops(t, "-", 1)
	stops(t, "- -", 1)
	stops(t, ".", 0)
	stops(t, "f() -> a.", 0)
	stops(t, "-module", 2)
	stops(t, "-module m.", 2)
	stops(t, "-module(X).", 3)
	stops(t, "-module(1).", 3)
	stops(t, "-module(end).", 3)
	stops(t, "-module(m, n).", 4)
	stops(t, "-module().", 3)
	stops(t, "-module(m)", 5)
	stops(t, "-module(m) -module(n).", 5)
	stops(t, "-module(m). -", 7)
	stops(t, "-module(m). .", 6)
	stops(t, "-module(m). ;", 6)
	stops(t, "-module(m). X", 6)
	stops(t, "-module(m). 1", 6)
	stops(t, "-module(m). f", 7)
	stops(t, "-module(m). f.", 7)
	stops(t, "-module(m). m:f() -> a.", 7)
	stops(t, "-module(m). f() = a.", 9)
	stops(t, "-module(m). f() when -> a.", 10)
	stops(t, "-module(m). f() when a", 11)
	stops(t, "-module(m). f() when a; -> b.", 12)
	stops(t, "-module(m). f() when a, -> b.", 12)
	stops(t, "-module(m). f() when a when b -> c.", 11)
	stops(t, "-module(m). f() -> a; .", 12)
	stops(t, "-module(m). f() -> a; b.", 13)
	stops(t, "-module(m). f() -> a; X -> b.", 12)
	stops(t, "-module(m). f() -> a; -export([]).", 12)
	stops(t, "-module(m). f() -> a", 11)
	stops(t, "-module(m). f() -> a. g", 13)
	stops(t, "-module(m). f() -> a. -define(x).", 13)
	stops(t, "-module(m). f() -> a -module(n) -> b.", 16)
	stops(t, "-module(m). f() -> a. end", 12)
}

// P11.1: tokens that are a program's, by every row and choice of the grammar, and their tree, with its places.
func TestSomePrograms(t *testing.T) {
	r := rand.New(rand.NewSource(1))
	met := map[api.NodeKind]int{}
	for range 1000 {
		l, want := someProgram(r, 1+r.Intn(4))
		if len(l) > 3000 {
			continue
		}
		before := slices.Clone(l)
		if got := parsed(t, l); write(got, true) != write(want, true) {
			t.Fatalf("%s: %s, not %s", tokens(l), cut(write(got, true)), cut(write(want, true)))
		}
		if !slices.Equal(before, l) {
			t.Fatal("tokens are changed")
		}
		for _, n := range listOf(want) {
			met[n.Kind]++
		}
	}
	for kind, name := range names {
		if met[kind] < 20 {
			t.Errorf("only %d nodes of the kind %s", met[kind], name)
		}
	}
}

// vocabulary is tokens of all kinds and of all texts that the grammar names, and some that it names nowhere.
func vocabulary() []api.Token {
	l := []api.Token{{Kind: api.TDot}, {Kind: api.TInt}, {Kind: api.TInt, Int: 7}, {Kind: api.TInt, Int: -7}, {Kind: api.TVar, Text: "X"}, {Kind: api.TVar, Text: "_"}, {Kind: api.TVar}, {}, {Kind: 7, Text: "("}, {Kind: -1, Text: ","}, {Kind: api.TInt, Text: ","}, {Kind: api.TDot, Text: ";"}}
	for _, text := range strings.Fields("a '' module export throw error exit _ end ( . X") {
		l = append(l, api.Token{Kind: api.TAtom, Text: strings.Trim(text, "'")})
	}
	for _, text := range strings.Fields("after and andalso begin case catch div end fun if not of or orelse receive rem try when xor a ( = - module .") {
		l = append(l, api.Token{Kind: api.TWord, Text: text})
	}
	for _, text := range strings.Fields("( ) [ ] { } , ; : | -> ! = + - * / == /= =< < >= > =:= =/= ++ -- a end not orelse . <= =>") {
		l = append(l, api.Token{Kind: api.TSign, Text: text})
	}
	return l
}

// holds: does Parse of tokens answer as the grammar does?
func holds(t *testing.T, l []api.Token, at int) {
	t.Helper()
	nodes, root, err := parse.Parse(l)
	if at < 0 {
		grown(t, nodes, root, err)
		return
	}
	if !isRefused(nodes, root, err, faulty(at, api.ErrSyntax)) {
		t.Fatalf("%s: %d nodes, %v, not at %d", tokens(l), len(nodes), err, at)
	}
}

// P11.1: every beginning of programs, with every token behind it: where the first that may not stand there is, the grammar tells, followed on all its ways at once.
func TestEveryNextToken(t *testing.T) {
	g := readGrammar(chapter)
	r := rand.New(rand.NewSource(2))
	words := vocabulary()
	for range 40 {
		l, _ := someProgram(r, 1+r.Intn(3))
		if len(l) > 100 {
			continue
		}
		way := newReader(g)
		for i, next := range l {
			ahead := l[:i:i]
			if way.isDone() {
				holds(t, ahead, -1)
			} else {
				holds(t, ahead, i)
			}
			for _, word := range words {
				if !way.takes(word) {
					holds(t, append(ahead, word), i)
					holds(t, append(append(ahead, word), l[i:]...), i)
				} else if nodes, root, err := parse.Parse(append(ahead, word)); !isRefused(nodes, root, err, faulty(i+1, api.ErrSyntax)) && word.Kind != api.TDot {
					t.Fatalf("%s and then %+v: %d nodes, %v, not at %d", tokens(ahead), word, len(nodes), err, i+1)
				}
			}
			if !way.takes(next) {
				t.Fatalf("%s: the grammar does not take %d", tokens(l), i)
			}
			way.take(next)
		}
		if !way.isDone() {
			t.Fatalf("%s: no program, says the grammar", tokens(l))
		}
	}
}

// P11.1: programs with tokens less, more, other ones, and in another order, held against the grammar.
func TestChangedPrograms(t *testing.T) {
	g := readGrammar(chapter)
	r := rand.New(rand.NewSource(3))
	words := vocabulary()
	good := 0
	for range 3000 {
		l, _ := someProgram(r, 1+r.Intn(3))
		if len(l) > 80 {
			continue
		}
		for n := 1 + r.Intn(2); n > 0 && len(l) > 0; n-- {
			i := r.Intn(len(l))
			switch r.Intn(4) {
			case 0:
				l = slices.Delete(l, i, i+1)
			case 1:
				l = slices.Insert(l, i, words[r.Intn(len(words))])
			case 2:
				l[i] = words[r.Intn(len(words))]
			case 3:
				k := r.Intn(len(l))
				l[i], l[k] = l[k], l[i]
			}
		}
		at := misplaced(g, l)
		holds(t, l, at)
		if at < 0 {
			good++
		}
	}
	if good < 30 {
		t.Errorf("only %d programs left", good)
	}
}

// P11.1: one token, every two and every three as an expression.
func TestShortExpressions(t *testing.T) {
	dot := api.Token{Kind: api.TDot}
	words := vocabulary()
	l := tokensOf(t, "-module(m). f() -> ")
	r := newReader(readGrammar(chapter))
	for _, word := range l {
		r.take(word)
	}
	var all func(left int)
	all = func(left int) {
		ahead := l
		for _, word := range words {
			l = append(ahead[:len(ahead):len(ahead)], word)
			if !r.takes(word) {
				holds(t, append(l, dot), len(ahead))
				continue
			}
			last := r.last
			r.take(word)
			switch {
			case word.Kind == api.TDot:
				holds(t, l, -1)
			case !r.takes(dot):
				holds(t, append(l, dot), len(l))
			default:
				holds(t, append(l, dot), -1)
			}
			if left > 1 && word.Kind != api.TDot {
				all(left - 1)
			}
			r.drop(last)
		}
		l = ahead
	}
	all(3)
}

// P11.1: tokens are taken by Kind and Text, ints by Int, whatever else they hold.
func TestOddTokens(t *testing.T) {
	r := rand.New(rand.NewSource(4))
	for range 300 {
		l, want := someProgram(r, 1+r.Intn(3))
		for i := range l {
			switch l[i].Kind {
			case api.TInt, api.TDot:
				l[i].Text = []string{"", "(", "end", "\xff", "a"}[r.Intn(5)]
			}
			if l[i].Kind != api.TInt {
				l[i].Int = r.Int63() - r.Int63()
			}
		}
		if got := parsed(t, l); write(got, true) != write(want, true) {
			t.Fatalf("%s: %s, not %s", tokens(l), cut(write(got, true)), cut(write(want, true)))
		}
	}
	long := strings.Repeat("\xff", 1000)
	head := tokensOf(t, "-module(m). -export([f/0]). f(X) -> a.")
	for i, kind := range map[int]api.TokenKind{3: api.TAtom, 10: api.TAtom, 16: api.TAtom, 18: api.TVar, 21: api.TAtom} {
		if head[i].Kind != kind {
			t.Fatalf("token %d is %+v", i, head[i])
		}
		head[i].Text = strconv.Itoa(i) + long
	}
	head[12].Int = -1 << 63
	module := parsed(t, head).kids[0]
	for i, got := range []struct{ got, want string }{
		{module.node.Text, "3" + long}, {module.kids[0].node.Text, "10" + long}, {module.kids[1].node.Text, "16" + long},
		{module.kids[1].kids[0].node.Text, "16" + long}, {module.kids[1].kids[0].kids[0].kids[0].node.Text, "18" + long}, {module.kids[1].kids[0].kids[1].kids[0].node.Text, "21" + long},
	} {
		if got.got != got.want {
			t.Errorf("name %d is %s", i, cut(strconv.Quote(got.got)))
		}
	}
	if module.kids[0].node.Int != -1<<63 {
		t.Errorf("%d arguments", module.kids[0].node.Int)
	}
}

// P11.1: no token stands for one of another kind with the same text.
func TestOtherKinds(t *testing.T) {
	l := tokensOf(t, "-module(m). -export([f/1]). f(X) when not X -> [1 | {try receive a -> m:g(); b -> c after 1 -> 2 end catch throw:Y -> Y = 3 end}].")
	parsed(t, l)
	g := readGrammar(chapter)
	for i := range l {
		for kind := api.TokenKind(-1); kind < 9; kind++ {
			other := slices.Clone(l)
			other[i].Kind = kind
			holds(t, other, misplaced(g, other))
		}
	}
}

// P11.1: errors are told in order: too many tokens ahead of those that may not stand there.
func TestManyTokens(t *testing.T) {
	comma, name := api.Token{Kind: api.TSign, Text: ","}, api.Token{Kind: api.TAtom, Text: "a"}
	head := tokensOf(t, "-module(m). f() -> ")
	full := slices.Clone(head)
	for len(full) < 65536-2 {
		full = append(full, name, comma)
	}
	// 10 tokens are ahead: so it is an a that stands last but one.
	full = append(full, name, api.Token{Kind: api.TDot})
	if len(full) != 65536 {
		t.Fatalf("%d tokens", len(full))
	}
	nodes, root, err := parse.Parse(full)
	if err != nil || len(nodes) != 65526/2+6 || nodes[root].Kind != api.NProgram {
		t.Fatalf("%d nodes, %v", len(nodes), err)
	}
	refuse := func(l []api.Token, at int, code api.Errno) {
		t.Helper()
		if nodes, root, err := parse.Parse(l); !isRefused(nodes, root, err, faulty(at, code)) {
			t.Errorf("%d tokens: %d nodes, %v", len(l), len(nodes), err)
		}
	}
	refuse(append(slices.Clone(full), comma), 0, api.ErrMany)
	refuse(append(slices.Clone(full), full...), 0, api.ErrMany)
	refuse(append([]api.Token{{}}, full...), 0, api.ErrMany)
	refuse(make([]api.Token, 65537), 0, api.ErrMany)
	refuse(make([]api.Token, 65536), 0, api.ErrSyntax)
	refuse(full[:65535], 65535, api.ErrSyntax)
	full[65534] = comma
	refuse(full, 65534, api.ErrSyntax)
}

// manyNodes is a program of so many nodes, of tokens that are fewer: clauses with guards, and tuples that fill up.
func manyNodes(t *testing.T, n int) []api.Token {
	t.Helper()
	l := tokensOf(t, "-module(m). f() -> case a of X when a -> b ")
	clause := tokensOf(t, "; X when a -> b")
	// Program, module, function, clause, args, body, case and a: then seven nodes for each clause of six tokens.
	n -= 8 + 7
	for ; n >= 7; n -= 7 {
		l = append(l, clause...)
	}
	for ; n > 0; n-- {
		l = append(l, api.Token{Kind: api.TSign, Text: ","}, api.Token{Kind: api.TAtom, Text: "a"})
	}
	return append(l, api.Token{Kind: api.TWord, Text: "end"}, api.Token{Kind: api.TDot})
}

// P11.1: as many nodes as may be, and one more; tokens that may not stand there are told first.
func TestManyNodes(t *testing.T) {
	for _, n := range []int{65534, 65535, 65536} {
		nodes, root, err := parse.Parse(manyNodes(t, n))
		if err != nil || len(nodes) != n || len(parse.Below(nodes, root)) != n {
			t.Errorf("%d nodes, not %d: %v", len(nodes), n, err)
		}
		if err := parse.Check(nodes, root); err != nil {
			t.Errorf("Check of %d nodes: %v", n, err)
		}
	}
	for _, n := range []int{65537, 65538, 70000} {
		l := manyNodes(t, n)
		if len(l) > 65536 {
			t.Fatalf("%d tokens", len(l))
		}
		if nodes, root, err := parse.Parse(l); !isRefused(nodes, root, err, faulty(0, api.ErrMany)) {
			t.Errorf("%d nodes, not %d: %v", len(nodes), n, err)
		}
		if nodes, root, err := parse.Parse(append(l, l[0])); !isRefused(nodes, root, err, faulty(len(l)+1, api.ErrSyntax)) {
			t.Errorf("%d nodes, %v", len(nodes), err)
		}
	}
}

// nests are ways to stand within another phrase, and by how much a tree is higher with each.
var nests = []struct {
	left, right string
	more        int
}{
	{"-", "", 1}, {"not", "", 1}, {"{", "}", 1}, {"{a, ", ", a}", 1}, {"[", "]", 1}, {"[a, ", "]", 1}, {"[a | ", "]", 1}, {"f(", ")", 1}, {"f(a, ", ", a)", 1}, {"m:f(", ")", 1},
	{"a = ", "", 1}, {"(", ") = a", 1}, {"a ! ", "", 1}, {"(", ") ! a", 1}, {"a orelse ", "", 1}, {"(", ") orelse a", 1}, {"a andalso ", "", 1}, {"a == (", ")", 1}, {"(", ") < a", 1},
	{"a ++ ", "", 1}, {"a -- (", ")", 1}, {"", " + a", 1}, {"a - (", ")", 1}, {"", " * a", 1}, {"a and (", ")", 1}, {"(", ") rem a", 1}, {"((", ")) xor a", 1},
	{"begin ", " end", 2}, {"begin a, ", ", a end", 2}, {"case ", " of a -> a end", 1}, {"case a of ", " -> a end", 2}, {"case a of a when ", " -> a end", 4}, {"case a of a when a; a, ", " -> a end", 4}, {"case a of a -> ", " end", 3}, {"case a of a -> a; a -> ", " end", 3},
	{"receive ", " -> a end", 2}, {"receive a when ", " -> a end", 4}, {"receive a -> ", " end", 3}, {"receive after ", " -> a end", 2}, {"receive after a -> ", " end", 3}, {"receive a -> a after a -> ", " end", 3},
	{"try ", " catch a -> a end", 2}, {"try a catch ", " -> a end", 2}, {"try a catch _:", " -> a end", 2}, {"try a catch a when ", " -> a end", 4}, {"try a catch error:a -> ", " end", 3},
}

// spots are where an expression stands in a program, and how high the program is with an a there.
var spots = []struct {
	left, right string
	height      int
}{
	{"-module(m). f() -> ", ".", 6}, {"-module(m). f() -> a, ", ", a.", 6}, {"-module(m). f(", ") -> a.", 6}, {"-module(m). f(a, ", ") -> a.", 6}, {"-module(m). f() when ", " -> a.", 7}, {"-module(m). f() -> a; f() when a; a, ", " -> a. -module(n).", 7},
}

// nested puts phrases within one another, so many times, and signs that make it so much higher ahead of the innermost.
func nested(t *testing.T, left, right, spotLeft, spotRight string, times, more int) []api.Token {
	t.Helper()
	l := tokensOf(t, spotLeft)
	l = append(l, slices.Repeat(tokensOf(t, left), times)...)
	l = append(l, slices.Repeat([]api.Token{{Kind: api.TSign, Text: "-"}}, more)...)
	l = append(l, api.Token{Kind: api.TAtom, Text: "a"})
	l = append(l, slices.Repeat(tokensOf(t, right), times)...)
	return append(l, tokensOf(t, spotRight)...)
}

// P11.1: heights of 500 and of 501, by every kind of nesting; far deeper ones.
func TestHeights(t *testing.T) {
	for _, spot := range spots {
		for _, nest := range nests {
			// What a nesting holds beside must not be higher than what is nested, so signs are ahead of that.
			room := 500 - spot.height
			times := (room - 8) / nest.more
			more := room - times*nest.more
			l := nested(t, nest.left, nest.right, spot.left, spot.right, times, more)
			nodes, root, err := parse.Parse(l)
			if err != nil || parse.Check(nodes, root) != nil {
				t.Fatalf("%s .. %s in %s: %d nodes, %v", nest.left, nest.right, spot.left, len(nodes), err)
			}
			for _, l := range [][]api.Token{nested(t, nest.left, nest.right, spot.left, spot.right, times, more+1), nested(t, nest.left, nest.right, spot.left, spot.right, times+1, more)} {
				if nodes, root, err := parse.Parse(l); !isRefused(nodes, root, err, faulty(0, api.ErrNest)) {
					t.Fatalf("%s .. %s in %s, one more: %d nodes, %v", nest.left, nest.right, spot.left, len(nodes), err)
				}
			}
		}
	}
}

// P11.1: far deeper ones than may be, whole, cut off, and with a token that may not stand there: what is told first.
func TestFarDeeper(t *testing.T) {
	for _, nest := range nests {
		times := 15000 / (len(tokensOf(t, nest.left)) + len(tokensOf(t, nest.right)))
		l := nested(t, nest.left, nest.right, spots[0].left, spots[0].right, times, 0)
		if nodes, root, err := parse.Parse(l); !isRefused(nodes, root, err, faulty(0, api.ErrNest)) {
			t.Fatalf("%s .. %s: %d nodes, %v", nest.left, nest.right, len(nodes), err)
		}
		if nodes, root, err := parse.Parse(l[:len(l)-1]); !isRefused(nodes, root, err, faulty(len(l)-1, api.ErrSyntax)) {
			t.Fatalf("%s .. %s, cut off: %d nodes, %v", nest.left, nest.right, len(nodes), err)
		}
		l[len(l)-1].Kind = 0
		if nodes, root, err := parse.Parse(l); !isRefused(nodes, root, err, faulty(len(l)-1, api.ErrSyntax)) {
			t.Fatalf("%s .. %s, a wrong token last: %d nodes, %v", nest.left, nest.right, len(nodes), err)
		}
	}
	for _, left := range []string{"(", "-", "[", "try"} {
		l := append(tokensOf(t, spots[0].left), slices.Repeat(tokensOf(t, left), 65536)...)[:65536]
		if nodes, root, err := parse.Parse(l); !isRefused(nodes, root, err, faulty(65536, api.ErrSyntax)) {
			t.Fatalf("%s again and again: %d nodes, %v", left, len(nodes), err)
		}
	}
	// Parentheses alone are no height.
	l := nested(t, "(", ")", spots[0].left, spots[0].right, 32000, 494)
	if nodes, root, err := parse.Parse(l); err != nil || len(nodes) != 7+494 || nodes[root].Kind != api.NProgram {
		t.Fatalf("%d nodes, %v", len(nodes), err)
	}
	l = nested(t, "(", ")", spots[0].left, spots[0].right, 32000, 495)
	if nodes, root, err := parse.Parse(l); !isRefused(nodes, root, err, faulty(0, api.ErrNest)) {
		t.Fatalf("%d nodes, %v", len(nodes), err)
	}
}

// P11.1: places of every kind of node, literally.
func TestPlaces(t *testing.T) {
	for _, c := range []struct{ s, want string }{
		{" - module(m).\n-export([f/1, g/2]). f (X) when X, (Y); Z -> (1), 2 ; f([]) -> [].",
			"program@1(module m@1(export f /1@23, export g /2@28, function f /1@35(clause f@35(args@37(X@38), guard@46(conj@46(X@46, Y@50), conj@54(Z@54)), body@59(1@60, 2@64)), clause f@68(args@69(nil@70), body@77(nil@77)))))"},
		{"-module(m). f() -> A + B, C = (D ! E), (F) orelse G andalso H.",
			"program@0(module m@0(function f@12(clause f@12(args@13, body@19(binary +@21(A@19, B@23), match@28(C@26, send@33(D@31, E@35)), orelse@43(F@40, andalso@52(G@50, H@60)))))))"},
		{"-module(m). f() -> [1, 2 ], [ ], [3 | 4], {5}, { }, m : g ( 6 ), h(), - 7, not X.",
			"program@0(module m@0(function f@12(clause f@12(args@13, body@19(list@19(1@20, 2@23, nil@25), nil@28, list@33(3@34, 4@38), tuple@42(5@43), tuple@47, call m: g@52(6@60), call h@65, unary -@70(7@72), unary not@75(X@79))))))"},
		{"-module(m). f() -> begin 1 end, case 2 of (3) = 4 when 5 -> 6; 7 -> 8 end.",
			"program@0(module m@0(function f@12(clause f@12(args@13, body@19(begin@19(body@25(1@25)), case@32(2@37, clause@42(match@46(3@43, 4@48), guard@55(conj@55(5@55)), body@60(6@60)), clause@63(7@63, body@68(8@68))))))))"},
		{"-module(m). f() -> receive 1 -> 2 after (3) -> (4) end, try 5 catch error : 6 -> 7; (8) -> 9; _ : X -> Y end.",
			"program@0(module m@0(function f@12(clause f@12(args@13, body@19(receive@19(clause@27(1@27, body@32(2@32)), after@34(3@41, body@47(4@48))), try@56(body@60(5@60), clause error@68(6@76, body@81(7@81)), clause throw@84(8@85, body@91(9@91)), clause _@94(X@98, body@103(Y@103))))))))"},
		{"-module(m). -module(n). f(a) -> b.", "program@0(module m@0, module n@12(function f /1@24(clause f@24(args@25(a@26), body@32(b@32)))))"},
	} {
		if got := write(read(t, c.s), true); got != c.want {
			t.Errorf("%s: %s", c.s, got)
		}
	}
}

// P11.7: the same tokens at other places: the same tree, but for places; or the same fault.
func TestOtherPlaces(t *testing.T) {
	r := rand.New(rand.NewSource(5))
	words := vocabulary()
	for range 500 {
		l, want := someProgram(r, 1+r.Intn(3))
		if r.Intn(3) == 0 {
			l[r.Intn(len(l))] = words[r.Intn(len(words))]
		}
		first, one, err := parse.Parse(l)
		other := slices.Clone(l)
		for i := range other {
			other[i].At = []int{0, -1, i, -i, r.Int(), 1 << 62}[r.Intn(6)]
		}
		second, two, again := parse.Parse(other)
		if err != nil {
			if !isRefused(second, two, again, *err.(*api.Fault)) {
				t.Fatalf("%v at first, then %v", err, again)
			}
			continue
		}
		if again != nil || write(treeOf(first, one), false) != write(treeOf(second, two), false) || !parse.Same(first, one, second, two) {
			t.Fatalf("%s and %s, %v", cut(write(want, false)), show(second), again)
		}
		// All tokens at one place: all nodes stand there.
		for i := range other {
			other[i].At = -5
		}
		third, _, err := parse.Parse(other)
		if err != nil || slices.ContainsFunc(third, func(n api.Node) bool { return n.At != -5 }) {
			t.Fatalf("%s, %v", show(third), err)
		}
	}
}

// P11.6: what Parse answers of a text's tokens, Check takes.
func TestCheckTakes(t *testing.T) {
	r := rand.New(rand.NewSource(6))
	for range 1000 {
		l, want := someProgram(r, 1+r.Intn(4))
		s, err := lex.Join(l)
		if err != nil {
			continue
		}
		nodes, root, err := parse.Text(s)
		if err != nil || write(treeOf(nodes, root), false) != write(want, false) {
			t.Fatalf("%s: %v", cut(s), err)
		}
		if err := parse.Check(nodes, root); err != nil {
			t.Fatalf("%s: %v", cut(s), err)
		}
		if !sample.IsFault(parse.Check(nodes, len(nodes)), faulty(0, api.ErrTree)) {
			t.Fatalf("%s: behind the last node", cut(s))
		}
	}
}
