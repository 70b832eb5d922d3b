package compile_test

import (
	"fmt"
	"strings"
	"testing"
)

// took is a trial of a function's clauses that displays once.
func took(forms, call, what string) trial {
	return trial{forms, call, "display(" + what + ") 1; end normal 1", nil}
}

// P16.2: the patterns of a function's clauses, from the first one on.
func TestFunctionClauses(t *testing.T) {
	holdAll(t, []trial{
		{"f(1) -> ok.", "f(2)", "end function_clause 0", nil},
		{"f(1) -> ok.", "f(1)", "end normal 0", nil},
		{"f() -> ok.", "f()", "end normal 0", nil},
		{"f() when false -> ok.", "f()", "end function_clause 0", nil},
		took("f(1) -> display(a); f(2) -> display(b); f(_) -> display(c).", "f(1)", "a"), took("f(1) -> display(a); f(2) -> display(b); f(_) -> display(c).", "f(2)", "b"), took("f(1) -> display(a); f(2) -> display(b); f(_) -> display(c).", "f(x)", "c"),
		took("f(X) -> display(X); f(1) -> display(no).", "f(1)", "1"),
		took("f(X, Y) -> display({Y, X}).", "f(1, 2)", "{2,1}"), took("f(_, Y) -> display(Y).", "f(1, 2)", "2"), took("f(Y, _) -> display(Y).", "f(1, 2)", "1"),
		took("f(X, X) -> display(same); f(_, _) -> display(other).", "f({1}, {1})", "same"), took("f(X, X) -> display(same); f(_, _) -> display(other).", "f({1}, {2})", "other"),
		took("f({X, 1}, Y) -> display({a, X, Y}); f(Y, X) -> display({b, X, Y}).", "f({5, 1}, 6)", "{a,5,6}"), took("f({X, 1}, Y) -> display({a, X, Y}); f(Y, X) -> display({b, X, Y}).", "f({5, 2}, 6)", "{b,6,{5,2}}"),
		took("f({X, Y}, X) -> display({a, Y}); f({Y, X}, X) -> display({b, Y}); f(_, X) -> display({c, X}).", "f({1, 2}, 2)", "{b,1}"), took("f({X, Y}, X) -> display({a, Y}); f({Y, X}, X) -> display({b, Y}); f(_, X) -> display({c, X}).", "f({1, 2}, 3)", "{c,3}"),
		took("f(A, B) when A > B -> display({A, B}); f(B, A) -> display({A, B}).", "f(1, 2)", "{2,1}"),
		{"f(X) -> g(X), g({X}). g(1) -> display(1).", "f(1)", "display(1) 2; end function_clause 3", nil},
	})
}

// P16.2: each form of pattern, that fits (and what is then shown) and does not.
func TestPatterns(t *testing.T) {
	patterns := []struct{ pattern, shown, fits, value, not string }{
		{"0", "[]", "0", "[]", "1; a; []; {0}; [0]; -1"}, {"a", "[]", "a", "[]", "1; b; []; 'A'; {a}"}, {"''", "[]", "''", "[]", "a; []"}, {"[]", "[]", "[]", "[]", "1; a; {}; [1]; [[]]"},
		{"-5", "[]", "-5", "[]", "5; a"}, {"+ 5", "[]", "5", "[]", "-5"}, {"- 0", "[]", "0", "[]", "1"}, {"-576460752303423487", "[]", "-576460752303423487", "[]", "576460752303423487; -576460752303423488"},
		{"_", "[]", "{1,[2]}", "[]", ""}, {"X", "X", "{1,[2]}", "{1,[2]}", ""}, {"V", "V", "v", "v", "w; {v}"}, {"_X", "[]", "5", "[]", ""},
		{"{}", "[]", "{}", "[]", "{1}; []; a; 0; [{}]"}, {"{X}", "X", "{1}", "1", "{}; {1,2}; 1; [1]"}, {"{1, X, 3}", "X", "{1,2,3}", "2", "{2,2,3}; {1,2,4}; {1,2}; {1,2,3,4}; [1,2,3]"},
		{"{{1, X}, {Y, 2}}", "{X, Y}", "{{1,x},{y,2}}", "{x,y}", "{{2,x},{y,2}}; {{1,x},{y,3}}; {{1,x},y}; {x,{y,2}}; {{1,x}}; {{1},{y,2}}"},
		{"{X, {Y, {Z, a}}, b}", "{X, Y, Z}", "{1,{2,{3,a}},b}", "{1,2,3}", "{1,{2,{3,b}},b}; {1,{2,{3,a}},a}; {1,{2,3},b}; {1,2,b}"},
		{"{X, X}", "X", "{1,1}", "1", "{1,2}; {a,{a}}"}, {"{X, {X, X}, X}", "X", "{1,{1,1},1}", "1", "{1,{1,2},1}; {1,{2,1},1}; {1,{1,1},2}"}, {"{V, X, V}", "X", "{v,1,v}", "1", "{w,1,w}; {v,1,w}"},
		{"[X]", "X", "[1]", "1", "[]; [1,2]; [1|2]; {1}; 1"}, {"[X | Y]", "{X, Y}", "[1]", "{1,[]}", "[]; {1}; a"}, {"[X | Y]", "{X, Y}", "[1,2|3]", "{1,[2|3]}", ""}, {"[X | Y]", "{X, Y}", "[1|2]", "{1,2}", ""}, {"[X, Y]", "{X, Y}", "[1,2]", "{1,2}", "[1]; [1,2,3]; [1|2]; [1,2|3]; []"},
		{"[1, X, 3 | Y]", "{X, Y}", "[1,2,3,4]", "{2,[4]}", "[1,2]; [1,2|3]; [2,2,3]; [1,2,2]; [1]"}, {"[1, X, 3 | Y]", "{X, Y}", "[1,2,3|4]", "{2,4}", ""}, {"[X, X | X]", "X", "[1,1|1]", "1", "[1,1]; [1,2|1]; [1,1|2]"}, {"[[X | Y] | Z]", "{X, Y, Z}", "[[1,2],3]", "{1,[2],[3]}", "[1,2]; [[],3]"},
		{"[{X, a}, [Y | b] | {Z, c}]", "{X, Y, Z}", "[{1,a},[2|b]|{3,c}]", "{1,2,3}", "[{1,b},[2|b]|{3,c}]; [{1,a},[2|c]|{3,c}]; [{1,a},[2|b]|{3,d}]; [{1,a},[2|b],{3,c}]; [{1,a},[2|b]]"},
		{"[_, _ | _]", "[]", "[1,2]", "[]", "[1]; []"}, {"[V | V]", "V", "[v|v]", "v", "[v]; [w|v]; [v|w]"},
		{"X = Y", "{X, Y}", "1", "{1,1}", ""}, {"{X, _} = Y", "{X, Y}", "{1,2}", "{1,{1,2}}", "{1}; 1"}, {"Y = {X, 2}", "{X, Y}", "{1,2}", "{1,{1,2}}", "{1,3}; 1"}, {"{X, 2} = {1, Y}", "{X, Y}", "{1,2}", "{1,2}", "{1,3}; {2,2}"},
		{"{X, _} = {_, X}", "X", "{1,1}", "1", "{1,2}"}, {"X = {X}", "X", "", "", "1; {1}; {{1}}"}, {"{X} = X", "X", "", "", "1; {1}; {{1}}"}, {"1 = X = Y", "{X, Y}", "1", "{1,1}", "2"}, {"V = X", "X", "v", "v", "w"},
		{"[{X, Z} = Y | {Z, Y} = W]", "{X, Y, Z, W}", "[{1,2}|{2,{1,2}}]", "{1,{1,2},2,{2,{1,2}}}", "[{1,2}|{3,{1,2}}]; [{1,2}|{2,{1,3}}]; [{1,2}|2]; [1|{2,1}]"},
	}
	for _, p := range patterns {
		if p.fits != "" {
			holdPattern(t, p.pattern, p.shown, p.fits, p.value)
		}
		if p.not == "" {
			continue
		}
		for _, other := range strings.Split(p.not, "; ") {
			holdPattern(t, p.pattern, p.shown, other, "")
		}
	}
}

// holdPattern holds a pattern against a term wherever it may stand; V is v ahead of it.
func holdPattern(t *testing.T, pattern, shown, x, value string) {
	t.Helper()
	show := "display(" + shown + ")"
	fits := value != ""
	yes := fmt.Sprintf("display(%s) ", value)
	when := func(want, otherwise string) string {
		if fits {
			return want
		}
		return otherwise
	}
	holdAll(t, []trial{
		{"f(T, V) -> " + pattern + " = T, " + show + ".", "f(" + x + ", v)", when(yes+"1; end normal 1", "end {badmatch,"+x+"} 0"), nil},
		{"f(T, V) -> display({a, " + pattern + " = T}), " + show + ".", "f(" + x + ", v)", when("display({a,"+x+"}) 1; "+yes+"2; end normal 2", "end {badmatch,"+x+"} 0"), nil},
		{"f(T, V) -> case T of " + pattern + " -> " + show + " end.", "f(" + x + ", v)", when(yes+"1; end normal 1", "end {case_clause,"+x+"} 0"), nil},
		{"f(T, V) -> {V, case {T, 1} of {" + pattern + ", 2} -> no; {2, _, _} -> no; {" + pattern + ", 1} when V == v -> " + show + "; _ -> display(no) end, V}.", "f(" + x + ", v)", when(yes, "display(no) ") + "1; end normal 1", nil},
		{"f(T, V) -> try throw(T) catch error:" + pattern + " -> no; " + pattern + " -> " + show + " end.", "f(" + x + ", v)", when(yes+"1; end normal 1", "end {nocatch,"+x+"} 0"), nil},
		{"f(T, V) -> T, V, receive {[" + pattern + ", 2]} -> no; {[" + pattern + ", 1]} -> " + show + " after 0 -> display(no) end.", "f(a, v)", when(yes+"1; end normal 1", "display(no) 2; end normal 2"), come("+{[" + x + ",1]}")},
	})
	if strings.Contains(pattern, "V") {
		return
	}
	trial{"f(" + pattern + ") -> " + show + ".", "f(" + x + ")", when(yes+"1; end normal 1", "end function_clause 0"), nil}.hold(t)
	trial{"f(T) -> g(1, T, 2). g(_, {{" + pattern + "}, no, no}, _) -> no; g(1, " + pattern + ", 2) -> " + show + "; g(_, _, _) -> display(no).", "f(" + x + ")", when(yes, "display(no) ") + "2; end normal 2", nil}.hold(t)
}

// P16.2: names that are bound in each clause are read behind it; those ahead are not changed by clauses that fit in part.
func TestNamesBehind(t *testing.T) {
	holdAll(t, []trial{
		took("f(V) -> case V of 1 -> X = a; 2 -> X = b; _ -> X = c end, display(X).", "f(2)", "b"), took("f(V) -> case V of 1 -> X = a; 2 -> X = b; _ -> X = c end, display(X).", "f(5)", "c"),
		took("f(V) -> case V of {X, 1} -> a; {1, X} -> b; X -> c end, display(X).", "f({5,2})", "{5,2}"), took("f(V) -> case V of {X, 1} -> a; {1, X} -> b; X -> c end, display(X).", "f({1,2})", "2"),
		took("f(V) -> case V of {X, Y, 1} -> a; {Y, X, 2} -> b end, display({X, Y}).", "f({5,6,2})", "{6,5}"),
		took("f(V) -> case V of {X, 1} when X > 5 -> Y = a; {Y, 1} when Y < 5 -> X = b; {X, Y} -> c end, display({X, Y}).", "f({5,1})", "{5,1}"),
		took("f(V) -> case {V, Y = 5} of {1, X} -> a; {X, Y} -> b end, display({X, Y}).", "f(2)", "{2,5}"),
		took("f(V) -> case case V of {X, 1} -> X; {1, X} -> {X} end of {X} -> Y = 1; Y -> X end, display({X, Y}).", "f({7,1})", "{7,7}"), took("f(V) -> case case V of {X, 1} -> X; {1, X} -> {X} end of {X} -> Y = 1; Y -> X end, display({X, Y}).", "f({1,7})", "{7,1}"),
		took("f(V) -> {X = 1, X = V, {Y, X} = {X, V}}, display([X, Y]).", "f(1)", "[1,1]"),
		took("f(V) -> A = B = {C, D} = V, display([A, B, C, D]).", "f({1,2})", "[{1,2},{1,2},1,2]"), {"f(V) -> A = {A} = V.", "f({1})", "end {badmatch,{1}} 0", nil},
		took("f(V) -> try {X, 1} = V catch error:{badmatch, {Y, _}} -> display(Y) end.", "f({5,2})", "5"),
		took("f(V) -> Y = try {X, 1} = V, X catch error:_ -> case V of Z -> {no, Z} end end, display(Y).", "f({5,2})", "{no,{5,2}}"), took("f(V) -> Y = try {X, 1} = V, X catch error:_ -> case V of Z -> {no, Z} end end, display(Y).", "f({5,1})", "5"),
		took("f(V) -> X = 1, case V of {X, Y} -> display({a, Y}); {Y, X} -> display({b, Y}); Y -> display({c, X, Y}) end.", "f({2,1})", "{b,2}"), took("f(V) -> X = 1, case V of {X, Y} -> display({a, Y}); {Y, X} -> display({b, Y}); Y -> display({c, X, Y}) end.", "f({2,2})", "{c,1,{2,2}}"),
		took("f(V) -> case V of {1, X} -> Y = X; {X, 1} -> Y = {X} end, case {X, Y} of {A, {A}} -> display(yes); {A, A} -> display(no) end.", "f({5,1})", "yes"),
	})
}

// P16.2: guards: all tests of a row are true, or a later row holds; those that raise, or are no booleans, do not.
func TestGuards(t *testing.T) {
	guards := []struct {
		guard, v string
		holds    bool
		counted  int
	}{
		{"true", "1", true, 0}, {"false", "1", false, 0}, {"V", "true", true, 0}, {"V", "a", false, 0}, {"V", "1", false, 0}, {"V", "[]", false, 0}, {"V", "{true}", false, 0},
		{"V > 1", "2", true, 0}, {"V > 1", "1", false, 0}, {"V > 1, V < 3", "2", true, 0}, {"V > 1, V < 3", "3", false, 0}, {"V > 1; V < 0", "-1", true, 0}, {"V > 1; V < 0", "1", false, 0}, {"V > 5; V > 3, V < 5; V == 1", "4", true, 0}, {"V > 5; V > 3, V < 5; V == 1", "1", true, 0}, {"V > 5; V > 3, V < 5; V == 1", "5", false, 0},
		{"hd(V) == 1", "5", false, 0}, {"hd(V) == 1", "[1]", true, 0}, {"hd(V) == 1; true", "5", true, 0}, {"true, hd(V)", "5", false, 0}, {"V + 1 > 2; V == a", "a", true, 0}, {"V + 1", "1", false, 0}, {"1 div V == 1; V == 0", "0", true, 0}, {"element(V, {true, a})", "1", true, 0}, {"element(V, {true, a})", "2", false, 0}, {"element(V, {true, a})", "3", false, 0},
		{"V andalso true", "true", true, 0}, {"V andalso true", "a", false, 0}, {"V orelse true", "false", true, 0}, {"V orelse true", "1", false, 0}, {"V orelse true; true", "1", true, 0}, {"V == 1 orelse hd(V)", "1", true, 0}, {"V == 1 orelse hd(V)", "2", false, 0}, {"V == 1 andalso hd(V)", "2", false, 0}, {"true andalso V", "a", false, 0}, {"true andalso V", "true", true, 0},
		{"{V, [V | V]} == {1, [1 | 1]}", "1", true, 0}, {"not (V == 1)", "1", false, 0}, {"- V == 1", "-1", true, 0}, {"is_atom(V), not is_boolean(V)", "a", true, 0}, {"V == 'A b'; V =:= []", "[]", true, 0},
		{"self() == V", "<n@h.1.5.0>", true, 1}, {"self() == V", "1", false, 1}, {"node() == V; node() == 'n@h'", "1", true, 2}, {"V, self() == 1; self() == 1, true; node() == 'n@h'", "1", true, 2}, {"V, self() == 1; self() == 1, true; node() == 'n@h'", "true", true, 3}, {"self() == 1, node() == 'n@h'", "1", false, 1}, {"node() == 'n@h', self() == 1", "1", false, 2},
		{"V orelse is_pid(self())", "true", true, 0}, {"V orelse is_pid(self())", "false", true, 1}, {"V orelse is_pid(self())", "1", false, 0}, {"{self(), node(), hd(V), self()} == 1; true", "1", true, 2}, {"erlang:self() == erlang:node(); node(erlang:self()) == node()", "1", true, 4}, {"hd([self() | node()]) == self()", "1", true, 3},
	}
	for _, g := range guards {
		want := fmt.Sprintf("display(no) %d; end normal %d", g.counted+1, g.counted+1)
		if g.holds {
			want = fmt.Sprintf("display(yes) %d; end normal %d", g.counted+1, g.counted+1)
		}
		received := want
		if !g.holds {
			received = fmt.Sprintf("display(no) %d; end normal %d", g.counted+2, g.counted+2)
		}
		holdAll(t, []trial{
			{"f(V) when " + g.guard + " -> display(yes); f(_) -> display(no).", "f(" + g.v + ")", want, nil},
			{"f(W) -> case {W, 1} of {V, 1} when " + g.guard + " -> display(yes); {V, 1} -> display(no) end.", "f(" + g.v + ")", want, nil},
			{"f(W) -> {1, [try throw({W, 1}) catch {V, 1} when " + g.guard + " -> display(yes); {V, X} when X == 1 -> display(no) end]}.", "f(" + g.v + ")", want, nil},
			{"f() -> [1, receive {V, 1} when " + g.guard + " -> display(yes) after 0 -> display(no) end].", "f()", received, come("+{" + g.v + ",1}")},
			{"f(V) -> try g(V) catch error:function_clause -> display(no) end. g(V) when " + g.guard + " -> display(yes).", "f(" + g.v + ")", fmt.Sprintf("%s %d; end normal %d", map[bool]string{true: "display(yes)", false: "display(no)"}[g.holds], g.counted+2, g.counted+2), nil},
		})
	}
	holdAll(t, []trial{
		took("f(V) -> case V of {X, Y} when X > Y -> display({a, X, Y}); {Y, X} when X > Y -> display({b, X, Y}); X -> display({c, X}) end.", "f({1,2})", "{b,2,1}"),
		took("f(V) -> case V of {X, Y} when hd(X) == Y; X == Y -> display({a, X, Y}); {Y, X} when X + Y == 0 -> display({b, X, Y}); X -> display({c, X}) end.", "f({1,2})", "{c,{1,2}}"),
		{"f(V) -> case V of X when X -> a end.", "f(1)", "end {case_clause,1} 0", nil}, {"f(V) -> case V of X when self() == X -> a end.", "f(1)", "end {case_clause,1} 1", nil},
		{"f(V) -> try throw(V) catch X when self() == X -> a; X when node() == X -> b end.", "f(1)", "end {nocatch,1} 2", nil},
		{"self() -> 1. node() -> 2. f() -> display({self(), node(), erlang:self(), node(self())}).", "f()", "end badarg 4", nil},
		{"self() -> 1. f(V) when V == erlang:self() -> display(self()); f(_) -> no.", "f(<n@h.1.5.0>)", "display(1) 3; end normal 3", nil},
	})
}
