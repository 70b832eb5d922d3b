package compile_test

import (
	"fmt"
	"strings"
	"testing"
)

// come is what comes ahead of all events, then at each.
func come(given ...string) []string { return given }

// value is a trial of a phrase, in which V is bound: what it comes to is displayed.
func value(phrase, v, want string) trial {
	return trial{forms: "f(V) -> X = begin " + phrase + " end, display({V, X}). g(X) -> X.", call: "f(" + v + ")", want: want}
}

// shown is a trial of a phrase that has a value and counts nothing.
func shown(phrase, v, want string) trial {
	return value(phrase, v, "display({"+v+","+want+"}) 1; end normal 1")
}

// refused is a trial of a phrase that raises and counts nothing.
func refused(phrase, v, reason string) trial { return value(phrase, v, "end "+reason+" 0") }

// P16.2: phrases of terms alone.
func TestValues(t *testing.T) {
	holdAll(t, []trial{
		shown("0", "1", "0"), shown("576460752303423487", "1", "576460752303423487"), shown("a", "1", "a"), shown("'A b'", "1", "'A b'"), shown("''", "1", "''"), shown("[]", "1", "[]"),
		shown("V", "{a,[b|c]}", "{a,[b|c]}"),
		shown("{}", "1", "{}"), shown("{V}", "1", "{1}"), shown("{1, V, {a, V}}", "x", "{1,x,{a,x}}"),
		shown("[V]", "1", "[1]"), shown("[1, 2 | V]", "[]", "[1,2]"), shown("[1, 2 | V]", "[3,4]", "[1,2,3,4]"), shown("[1, 2 | V]", "[3|4]", "[1,2,3|4]"), shown("[1, 2 | V]", "x", "[1,2|x]"), shown("[V | V]", "[1]", "[[1],1]"), shown("[[] | [a | [b]]]", "1", "[[],a,b]"),
		shown("- V", "5", "-5"), shown("+ V", "5", "5"), shown("not V", "true", "false"), shown("- - 5", "1", "5"),
		shown("V + 1", "5", "6"), shown("V - 1", "5", "4"), shown("1 - V", "5", "-4"), shown("V * V", "5", "25"), shown("V div 2", "5", "2"), shown("V rem 2", "5", "1"),
		shown("V and true", "false", "false"), shown("V or true", "false", "true"), shown("V xor true", "true", "false"),
		shown("V ++ [2]", "[1]", "[1,2]"), shown("V -- [1]", "[1,2]", "[2]"), shown("V == 1", "1", "true"), shown("V /= 1", "1", "false"), shown("V =< 1", "2", "false"), shown("V < 1", "2", "false"), shown("V >= 1", "2", "true"), shown("V > 1", "2", "true"), shown("V =:= a", "a", "true"), shown("V =/= a", "a", "false"),
		shown("hd(V)", "[1,2]", "1"), shown("erlang:tl(V)", "[1,2]", "[2]"), shown("element(2, V)", "{a,b}", "b"), shown("setelement(1, V, x)", "{a,b}", "{x,b}"), shown("node(V)", "<m@h.1.5.0>", "m@h"), shown("abs(V)", "-3", "3"), shown("max(V, 2)", "3", "3"), shown("list_to_atom(V)", "[97,98]", "ab"),
		refused("- V", "a", "badarith"), refused("V + 1", "576460752303423487", "system_limit"), refused("V div 0", "1", "badarith"), refused("not V", "1", "badarg"), refused("V ++ []", "a", "badarg"), refused("hd(V)", "[]", "badarg"), refused("element(3, V)", "{a,b}", "badarg"), refused("list_to_atom(V)", "[a]", "badarg"),
		shown("begin V end", "1", "1"), shown("begin a, b, V end", "1", "1"), shown("begin Y = V, Y + 1 end", "1", "2"),
		value("self()", "1", "display({1,<n@h.1.5.0>}) 2; end normal 2"), value("node()", "1", "display({1,n@h}) 2; end normal 2"), value("erlang:self()", "1", "display({1,<n@h.1.5.0>}) 2; end normal 2"),
		value("display(V)", "1", "display(1) 1; display({1,ok}) 2; end normal 2"), value("V ! a", "b", "!(b,a) 1; display({b,ok}) 2; end normal 2"), value("g(V)", "1", "display({1,1}) 2; end normal 2"),
	})
}

// P16.2: all acts, by their names, with their arguments.
func TestActs(t *testing.T) {
	holdAll(t, []trial{
		{"f() -> spawn(m, f, []), spawn(n@h, m, f, [1]), link(a), unlink(b), monitor(process, c), demonitor(d).", "f()", "spawn(m,f,[]) 1; spawn(n@h,m,f,[1]) 2; link(a) 3; unlink(b) 4; monitor(process,c) 5; demonitor(d) 6; end normal 6", nil},
		{"f() -> exit(a, b), process_flag(trap_exit, true), register(p, q), unregister(p), whereis(p), monitor_node(n@h, true), nodes(), make_ref(), display(1).", "f()", "exit(a,b) 1; process_flag(trap_exit,true) 2; register(p,q) 3; unregister(p) 4; whereis(p) 5; monitor_node(n@h,true) 6; nodes() 7; make_ref() 8; display(1) 9; end normal 9", nil},
		{"f() -> {p, q@h} ! {self(), node()}.", "f()", "!({p,q@h},{<n@h.1.5.0>,n@h}) 3; end normal 3", nil},
		{"f() -> a ! b ! c.", "f()", "!(b,c) 1; !(a,{x}) 2; end normal 2", come("", "={x}")},
		{"f() -> X = make_ref(), {X, Y} = nodes(), display([X | Y]).", "f()", "make_ref() 1; nodes() 2; display([7,8]) 3; end normal 3", come("", "=7", "={7,[8]}")},
		{"f() -> display(display(1)).", "f()", "display(1) 1; display([a]) 2; end normal 2", come("", "=[a]")},
	})
}

// P16.2: what stands side by side is evaluated from the left; each way there counts alike.
func TestOrder(t *testing.T) {
	d := func(n int) string { return fmt.Sprintf("display(%d)", n) }
	phrase := strings.NewReplacer("#1", d(1), "#2", d(2), "#3", d(3), "#4", d(4))
	events := "display(1) 1; display(2) 2; display(3) 3"
	holdAll(t, []trial{
		{phrase.Replace("f() -> {#1, #2, #3}."), "f()", events + "; end normal 3", nil},
		{phrase.Replace("f() -> [#1, #2 | #3]."), "f()", events + "; end normal 3", nil},
		{phrase.Replace("f() -> [#1, #2, #3]."), "f()", events + "; end normal 3", nil},
		{phrase.Replace("f() -> g(#1, {#2, #3}). g(_, _) -> #4."), "f()", events + "; display(4) 5; end normal 5", nil},
		{phrase.Replace("f() -> x:g(#1, #2, #3)."), "f()", events + "; end undef 4", nil},
		{phrase.Replace("f() -> setelement(#1, #2, #3)."), "f()", events + "; end badarg 3", nil},
		{phrase.Replace("f() -> spawn(#1, #2, #3)."), "f()", events + "; spawn(ok,ok,ok) 4; end normal 4", nil},
		{phrase.Replace("f() -> #1 ! {#2, #3}."), "f()", events + "; !(ok,{ok,ok}) 4; end normal 4", nil},
		{phrase.Replace("f() -> #1 + (#2 - #3)."), "f()", events + "; end badarith 3", nil},
		{phrase.Replace("f() -> #1, #2, #3."), "f()", events + "; end normal 3", nil},
		{phrase.Replace("f() -> begin #1, #2 end, #3."), "f()", events + "; end normal 3", nil},
		{phrase.Replace("f() -> {X, X} = {#1, #2}, #3."), "f()", events + "; end normal 3", nil},
		{phrase.Replace("f() -> case {#1, #2} of _ -> #3 end."), "f()", events + "; end normal 3", nil},
		{phrase.Replace("f() -> #1 == ok andalso #2 == ok andalso #3 == x."), "f()", events + "; end normal 3", nil},
		{phrase.Replace("f() -> {try #1, throw(#2) catch _ -> #3 end, #4}."), "f()", events + "; display(4) 4; end normal 4", nil},
		{phrase.Replace("f() -> {#1, try throw(#2) catch _ -> #3 end, #4}."), "f()", events + "; display(4) 4; end normal 4", nil},
		{phrase.Replace("f() -> {#1, receive a -> #2 after 0 -> #3 end, #4}."), "f()", "display(1) 1; display(2) 2; display(4) 3; end normal 3", come("+a")},
		{phrase.Replace("f() -> {#1, receive a -> #2 after 0 -> #3 end, #4}."), "f()", "display(1) 1; display(3) 3; display(4) 4; end normal 4", come("+b")},
		{phrase.Replace("f() -> display({#1, receive X -> X end, [#2 | receive Y -> Y after 5 -> #3 end]})."), "f()", "display(1) 1; wait 1; display(2) 2; wait till 5 2; display({ok,a,[ok|b]}) 3; end normal 3", come("", "", "+a", "", "+b")},
	})
}

// P16.2: what raises ends all around it: nothing behind it is done.
func TestRaises(t *testing.T) {
	for _, raise := range []struct{ phrase, reason string }{{"error(x)", "x"}, {"exit(x)", "x"}, {"throw(x)", "{nocatch,x}"}, {"hd([])", "badarg"}, {"(1 + a)", "badarith"}, {"(1 = 2)", "{badmatch,2}"}, {"case 1 of 2 -> a end", "{case_clause,1}"}, {"(a andalso b)", "badarg"}} {
		for _, around := range []string{"#", "{display(1), #, display(2)}", "[display(1), # | display(2)]", "g(display(1), #, display(2))", "x:g(display(1), #)", "display(1) ! #, display(2)", "# ! display(2)", "display(#)", "g(#)", "{display(1), {[display(2) | #]}}", "- #", "# + display(1)", "display(1) + #", "# andalso display(1)", "true andalso #", "false orelse #", "X = #, display(X)", "{display(1), X = #, display(X)}", "case # of _ -> display(1) end", "case display(1) of _ -> # end, display(2)", "receive a -> a after # -> display(1) end", "receive a -> a after 0 -> # end, display(1)", "try # catch nobody -> display(1) end", "try a, #, b catch error:y -> display(1); exit:y -> display(2) end", "begin #, display(1) end", "display(1), throw(#)"} {
			events, counted := "", 0
			for n := 1; n <= 2; n++ {
				act := fmt.Sprintf("display(%d)", n)
				if at := strings.Index(around, act); at >= 0 && at < strings.Index(around, "#") && !strings.Contains(around, "catch") {
					counted++
					events += fmt.Sprintf("%s %d; ", act, counted)
				}
			}
			forms := "f() -> " + strings.Replace(around, "#", raise.phrase, 1) + ". g(_) -> 1. g(_, _, _) -> 1."
			trial{forms, "f()", fmt.Sprintf("%send %s %d", events, raise.reason, counted), nil}.hold(t)
		}
	}
}

// P16.2: andalso and orelse, each value on either side.
func TestAndAlsoOrElse(t *testing.T) {
	values := []string{"true", "false", "a", "1", "[]"}
	for _, left := range values {
		for _, right := range values {
			for _, op := range []string{"andalso", "orelse"} {
				decides := map[string]string{"andalso": "false", "orelse": "true"}[op]
				want := fmt.Sprintf("display(%s) 1; display(%s) 2; display(%s) 3; end normal 3", left, right, right)
				switch {
				case left == decides:
					want = fmt.Sprintf("display(%s) 1; display(%s) 2; end normal 2", left, left)
				case left != "true" && left != "false":
					want = fmt.Sprintf("display(%s) 1; end badarg 1", left)
				}
				trial{"f() -> X = (display(" + left + ") " + op + " display(" + right + ")), display(X).", "f()", want, come("", "="+left, "="+right)}.hold(t)
				last := strings.TrimSuffix(want, " 3")
				if strings.HasSuffix(want, "; end normal 3") {
					last = fmt.Sprintf("display(%s) 1; display(%s) 2; end normal 2", left, right)
				} else if left == decides {
					last = fmt.Sprintf("display(%s) 1; end normal 1", left)
				}
				trial{"f() -> display(" + left + ") " + op + " display(" + right + ").", "f()", last, come("", "="+left, "="+right)}.hold(t)
			}
		}
	}
	holdAll(t, []trial{
		shown("V andalso (X0 = 1) == 1", "true", "true"), shown("V andalso false orelse 5", "true", "5"), shown("V orelse true andalso 7", "false", "7"),
		refused("V andalso true orelse true", "1", "badarg"), shown("{V andalso a, V orelse b}", "true", "{a,true}"),
	})
}

// P16.2: terms that are none, for they are too great.
func TestTooGreat(t *testing.T) {
	list := func(n int) string { return "[" + strings.TrimSuffix(strings.Repeat("1,", n), ",") + "]" }
	deep := func(n int) string { return strings.Repeat("{", n) + strings.Repeat("}", n) }
	full, chain := list(4094), deep(256)
	tops := []struct{ forms, v, want string }{
		{"f(V) -> {V}.", full, "system_limit"}, {"f(V) -> {V}.", list(4093), "normal"}, {"f(V) -> {V, 1}.", list(4093), "system_limit"},
		{"f(V) -> [1 | V].", full, "system_limit"}, {"f(V) -> [1 | V].", list(4093), "normal"}, {"f(V) -> [V | 1].", full, "system_limit"}, {"f(V) -> [V, V].", list(3000), "system_limit"},
		{"f(V) -> {V}.", chain, "system_limit"}, {"f(V) -> {V}.", deep(255), "normal"}, {"f(V) -> [V].", chain, "system_limit"}, {"f(V) -> [1 | V].", chain, "system_limit"},
		{"f(V) -> V ++ V.", list(3000), "system_limit"},
		{"f(V) -> {1, throw({V}), 2}.", full, "system_limit"}, {"f(V) -> throw(V).", full, "system_limit"}, {"f(V) -> throw(V).", chain, "system_limit"},
		{"f(V) -> a = V.", full, "system_limit"}, {"f(V) -> a = V.", list(4092), "{badmatch," + list(4092) + "}"}, {"f(V) -> a = V.", list(4093), "system_limit"}, {"f(V) -> a = V.", chain, "system_limit"}, {"f(V) -> a = V.", deep(255), "{badmatch," + deep(255) + "}"},
		{"f(V) -> case V of a -> b end.", full, "system_limit"}, {"f(V) -> case V of a -> b end.", list(4092), "{case_clause," + list(4092) + "}"}, {"f(V) -> case V of a -> b end.", chain, "system_limit"}, {"f(V) -> case V of a -> b end.", deep(255), "{case_clause," + deep(255) + "}"},
		{"f(V) -> try {V} catch error:system_limit -> error(yes) end.", full, "yes"}, {"f(V) -> try a = V catch error:R -> error({yes, R}) end.", full, "{yes,system_limit}"}, {"f(V) -> try case V of a -> b end catch error:R -> error({yes, R}) end.", chain, "{yes,system_limit}"},
		{"f(V) -> try throw(V) catch X -> exit(X) end.", full, full}, {"f(V) -> error(V).", chain, chain},
		{"f(V) when {V} == {V} -> 1; f(_) -> throw(no).", full, "{nocatch,no}"}, {"f(V) when {V} == 1; true -> error(yes).", chain, "yes"}, {"f(V) when [V | V] == 1 -> 1; f(_) -> error(no).", full, "no"},
	}
	for _, x := range tops {
		trial{x.forms, "f(" + x.v + ")", "end " + x.want + " 0", nil}.hold(t)
	}
	elements := strings.TrimSuffix(strings.Repeat("1,", 4095), ",")
	holdAll(t, []trial{
		{"f() -> X = {" + elements + "}, display(tuple_size(X)).", "f()", "display(4095) 1; end normal 1", nil},
		{"f() -> {" + elements + ", display(1)}.", "f()", "display(1) 1; end system_limit 1", nil},
		{"f() -> [" + elements + ", display(1)].", "f()", "display(1) 1; end system_limit 1", nil},
		{"f() -> try [" + elements + " | display(1)] catch error:system_limit -> display(2) end.", "f()", "display(1) 1; display(2) 2; end normal 2", nil},
	})
}
