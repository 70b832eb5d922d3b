package check_test

import (
	"strconv"
	"strings"
	"testing"

	"heddle/api"
)

// verdict is how a phrase is told, and the place of the node that is told, from the phrase's first byte on.
type verdict struct {
	code api.Errno
	at   int
}

var right verdict

func noPattern(at int) verdict { return verdict{api.ErrPattern, at} }
func noGuard(at int) verdict   { return verdict{api.ErrGuard, at} }
func noName(at int) verdict    { return verdict{api.ErrUnbound, at} }

// phrase is an expression, and how it is told in a pattern and in a guard in which V is bound.
type phrase struct {
	text           string
	pattern, guard verdict
}

// phrases have every kind of expression; f/1 is a function of the module.
func phrases() []phrase {
	all := []phrase{
		{"1", right, right}, {"a", right, right}, {"''", right, right}, {"[]", right, right}, {"V", right, right}, {"{}", right, right}, {"{1, a}", right, right}, {"[1, a]", right, right}, {"[1 | a]", right, right}, {"[[V] | {V}]", right, right},
		{"W", right, noName(0)}, {"_", right, noName(0)}, {"_W", right, noName(0)}, {"{1, W}", right, noName(4)}, {"[_]", right, noName(1)}, {"[1 | _]", right, noName(5)},
		{"1 = 2", right, noGuard(2)}, {"W = V", right, noGuard(2)}, {"W = W = W", right, noGuard(2)}, {"{V = 1}", right, noGuard(3)},
		{"case 1 of 2 -> 3 end", noPattern(0), noGuard(0)}, {"begin 1 end", noPattern(0), noGuard(0)}, {"begin W end", noPattern(0), noGuard(0)}, {"try 1 catch 2 -> 3 end", noPattern(0), noGuard(0)},
		{"1 ! 2", noPattern(2), noGuard(2)}, {"receive 1 -> 2 end", noPattern(0), noGuard(0)}, {"receive after 1 -> 2 end", noPattern(0), noGuard(0)},
		{"f(V)", noPattern(0), noGuard(0)}, {"f()", noPattern(0), noGuard(0)}, {"k:g()", noPattern(0), noGuard(0)}, {"m:f(V)", noPattern(0), noGuard(0)}, {"k:self()", noPattern(0), noGuard(0)}, {"nodes()", noPattern(0), noGuard(0)}, {"erlang:f(V)", noPattern(0), noGuard(0)},
		{"self()", noPattern(0), right}, {"erlang:self()", noPattern(0), right}, {"hd(V)", noPattern(0), right}, {"erlang:node(V)", noPattern(0), right}, {"hd(W)", noPattern(0), noName(3)}, {"hd(f(V))", noPattern(0), noGuard(3)}, {"f(W)", noPattern(0), noGuard(0)},
		{"+1", right, right}, {"-1", right, right}, {"- 0", right, right}, {"{1, -1}", right, right}, {"{1, -a}", noPattern(4), right},
		{"not 1", noPattern(0), right}, {"not true", noPattern(0), right}, {"- a", noPattern(0), right}, {"-V", noPattern(0), right}, {"+V", noPattern(0), right}, {"- - 1", noPattern(0), right}, {"+ - 1", noPattern(0), right}, {"-[]", noPattern(0), right}, {"-{}", noPattern(0), right}, {"-[1]", noPattern(0), right},
		{"-W", noPattern(0), noName(1)}, {"-_", noPattern(0), noName(1)}, {"-(1 + 1)", noPattern(0), right}, {"-(1 = 1)", noPattern(0), noGuard(4)}, {"-self()", noPattern(0), right}, {"not not 1", noPattern(0), right},
		{"1 andalso 2", noPattern(2), right}, {"1 orelse 2", noPattern(2), right}, {"V andalso W", noPattern(2), noName(10)}, {"1 ++ 2", noPattern(2), noGuard(2)}, {"[] -- []", noPattern(3), noGuard(3)}, {"W ++ W", noPattern(2), noGuard(2)},
	}
	for _, operator := range strings.Fields("== /= =< < >= > =:= =/= + - or xor * div rem and") {
		all = append(all, phrase{"1 " + operator + " V", noPattern(2), right}, phrase{"W " + operator + " V", noPattern(2), noName(0)})
	}
	return all
}

// holds puts a phrase, in parentheses, into the ? of a module's text, and holds that it is told as it must be.
func holds(t *testing.T, text, phrase string, v verdict) {
	t.Helper()
	if v != right {
		phrase = phrase[:v.at] + "^" + phrase[v.at:]
	}
	forms(t, v.code, strings.Replace(text, "?", "("+phrase+")", 1))
}

// nested are texts with a hole, put into one another up to a depth.
func nested(depth int, texts []string) []string {
	all := []string{"?"}
	for _, text := range texts {
		if depth > 0 {
			for _, inner := range nested(depth-1, texts) {
				all = append(all, strings.Replace(text, "?", inner, 1))
			}
		}
	}
	return all
}

// P12.1: every kind of expression as a pattern, wherever patterns stand, below tuples, lists and matches.
func TestCheckPatterns(t *testing.T) {
	all := phrases()
	within := nested(2, []string{"{?}", "{1, ?, 2}", "[?]", "[1, ? | 2]", "[1 | ?]", "(? = 1)", "(1 = ?)"})
	for _, around := range []string{
		"f(V) -> g(V, V). g(V, #) -> 1.", "g(1, V) -> 1; g(V, #) when 1 -> 2. f(V) -> 1.", "f(V) -> # = V.", "f(V) -> {# = V}.", "f(V) -> case V of 1 -> 1; # -> 2 end.", "f(V) -> receive # when V -> 2; 1 -> V end.", "f(V) -> receive # -> 1 after 1 -> 2 end.",
		"f(V) -> try 1 catch # -> 2 end.", "f(V) -> try 1 catch error:2 -> 3; _:# when 1 -> 2 end.",
	} {
		for _, place := range within {
			for _, p := range all {
				holds(t, strings.Replace(around, "#", place, 1), p.text, p.pattern)
			}
		}
	}
}

// P12.1: every kind of expression in a guard, wherever guards stand, below all that may stand there.
func TestCheckGuards(t *testing.T) {
	all := phrases()
	within := nested(1, []string{"{?}", "{1, ?, 2}", "[?]", "[1, ? | 2]", "[1 | ?]", "not ?", "- ?", "? + 1", "1 * ?", "? == 1", "1 =/= ?", "? andalso 1", "1 andalso ?", "? orelse 1", "1 orelse ?", "hd(?)", "erlang:element(1, ?)", "element(?, 1)"})
	within = append(within, "1, ?", "?, 2", "1; ?", "?; 1", "1, 2; 3, ?, 4; 5", "{[hd({-?})]}")
	for _, around := range []string{
		"f(V) when # -> 1.", "f(1) -> 1; f(V) when # -> 2.", "f(V) -> case 1 of 2 when # -> 3 end.", "f(V) -> case 1 of 2 -> 3; 4 when # -> 5 end.", "f(V) -> receive 1 when # -> 2 end.", "f(V) -> receive 1 when # -> 2 after 3 -> 4 end.", "f(V) -> try 1 catch 2 when # -> 3 end.", "f(V) -> try 1 catch 1 -> 2; _:3 when # -> 4 end.",
	} {
		for _, place := range within {
			for _, p := range all {
				holds(t, strings.Replace(around, "#", place, 1), p.text, p.guard)
			}
		}
	}
}

// P12.1: each built-in in a guard, with Mod and without; with a function of the module of its name and arity, and of another arity.
func TestCheckGuardCalls(t *testing.T) {
	for _, bif := range api.Bifs() {
		call := bif.Name + "(" + some(bif.Arity, "V") + ")"
		code := api.ErrGuard
		if bif.Guard {
			code = api.OK
		}
		own := bif.Name + "(" + some(bif.Arity, "_") + ") -> 1. "
		for _, other := range []string{"", bif.Name + "(" + some(9, "_") + ") -> 1. ", own} {
			for _, mod := range []string{"", "erlang:", "k:", "m:"} {
				want := code
				if mod != "erlang:" && mod != "" || mod == "" && other == own {
					want = api.ErrGuard
				}
				mark := "^"
				if want == api.OK {
					mark = ""
				}
				forms(t, want, other+"h(V) when "+mark+mod+call+" -> 1.")
				forms(t, want, "h(V) when 1, {"+mark+mod+call+"} -> 1. "+other)
			}
		}
		// Arguments come behind the call.
		if bif.Guard && bif.Arity > 0 {
			forms(t, api.ErrUnbound, "h(V) when "+bif.Name+"("+some(bif.Arity-1, "V")+strings.Repeat(", ", min(1, bif.Arity-1))+"^X) -> 1.")
		}
		wrong := "^" + bif.Name + "(X" + strings.Repeat(", X", bif.Arity+2) + ")"
		forms(t, api.ErrGuard, "h(V) when "+wrong+" -> 1.")
		forms(t, api.ErrUnknown, "h(V) -> "+wrong+".")
	}
	forms(t, api.ErrGuard, "h(V) when ^g(V) -> 1. g(V) -> V.")
	forms(t, api.ErrGuard, "h(V) when ^h(V) -> 1.")
	program(t, api.OK, "-module(m). abs(X) -> X. -module(n). h(V) when abs(V) -> 1.")
	program(t, api.ErrGuard, "-module(m). abs(X) -> X. -module(n). h(V) when ^abs(V) -> 1. abs(X) -> X.")
}

// P12.1: what a call is of: a function of the module, ahead or behind, itself; a built-in; erlang's; another module's, its own among them.
func TestCheckCalls(t *testing.T) {
	knows(t, "f() -> f(), g(1), g(). g() -> f(). g(_) -> g().", "f/0 g/1 g/0 f/0 _ g/0")
	knows(t, "f() -> k:f(), m:f(), m:g(1), k:self(), ''().  ''() -> 'erlang':self().", "k:f/0 m:f/0 m:g/1 k:self/0 /0 erlang:self/0")
	knows(t, "f() -> self(), abs(1), node(), node(2), exit(1), exit(1, 2). abs(_) -> 1. exit(_) -> 2.", "erlang:self/0 abs/1 erlang:node/0 erlang:node/1 exit/1 erlang:exit/2 _ _")
	knows(t, "f() -> erlang:abs(1), erlang:exit(2), abs(3). abs(_) -> 1.", "erlang:abs/1 erlang:exit/1 abs/1 _")
	knows(t, "f(X) -> g(g(X), self()). g(A) -> {A}. g(A, B) when hd(A) > tl(B) -> A ! B.", "X=0 g/2 g/1 X.0 erlang:self/0 A=0 A.0 A=0 B=1 erlang:hd/1 A.0 erlang:tl/1 B.1 A.0 B.1")
	for _, bif := range api.Bifs() {
		call := bif.Name + "(" + some(bif.Arity, "1") + ")"
		name := bif.Name + "/" + strconv.Itoa(bif.Arity)
		knows(t, "h() -> "+call+", erlang:"+call+", k:"+call+".", "erlang:"+name+" erlang:"+name+" k:"+name)
		knows(t, bif.Name+"("+some(bif.Arity, "1")+") -> "+call+", erlang:"+call+", k:"+call+".", name+" erlang:"+name+" k:"+name)
	}
	for _, s := range []string{"^h()", "^h(1)", "^f()", "^f(1, 2)", "^g(1)", "^'F'(1)", "^erlang:f(1)", "^erlang:g()", "^erlang:''()", "^abs()", "^abs(1, 2)", "^erlang:abs()", "^spawn(1)", "^h(X)", "^erlang:h(X)", "{1, ^h()}", "abs(^h())", "k:h(^h())", "h:h(), ^h()"} {
		body(t, api.ErrUnknown, s)
	}
	program(t, api.ErrUnknown, "-module(m). f() -> 1. -module(n). g() -> ^f().")
	program(t, api.OK, "-module(m). f() -> 1. -module(n). g() -> m:f(), n:h(), m:h().")
}
