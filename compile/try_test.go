package compile_test

import (
	"fmt"
	"testing"
)

// P16.2: clauses of each class and of _, with what is raised of each.
func TestClasses(t *testing.T) {
	ends := map[string]string{"error": "end x 0", "exit": "end x 0", "throw": "end {nocatch,x} 0"}
	for _, raised := range []string{"error", "exit", "throw"} {
		for _, class := range []string{"error:", "exit:", "throw:", "", "_:"} {
			catches := class == raised+":" || class == "_:" || class == "" && raised == "throw"
			want := ends[raised]
			if catches {
				want = "display({caught,x}) 1; end normal 1"
			}
			holdAll(t, []trial{
				{"f() -> try " + raised + "(x) catch " + class + "R -> display({caught, R}) end.", "f()", want, nil},
				{"f() -> {1, try a, {2, " + raised + "(x)} catch " + class + "R -> display({caught, R}) end, 3}.", "f()", want, nil},
				{"f() -> try g() catch " + class + "y -> no; " + class + "x -> display({caught, x}) end. g() -> {1, h()}. h() -> [" + raised + "(x)].", "f()", map[bool]string{true: "display({caught,x}) 3; end normal 3", false: want[:len(want)-1] + "2"}[catches], nil},
				{"f() -> try display(1) catch " + class + "R -> display({caught, R}) end.", "f()", map[bool]string{true: "display(1) 1; display({caught,x}) 2; end normal 2", false: "display(1) 1; " + want[:len(want)-1] + "1"}[catches], come("", raised+":x")},
			})
			// Raised again, it is of its class still.
			for _, outer := range []string{"error", "exit", "throw"} {
				again := want
				if !catches && outer == raised {
					again = "display({outer,x}) 1; end normal 1"
				}
				trial{"f() -> try try " + raised + "(x) catch " + class + "R -> display({caught, R}) end catch " + outer + ":S -> display({outer, S}) end.", "f()", again, nil}.hold(t)
			}
		}
	}
}

// P16.2: the first clause that fits; raises in clauses' bodies, tries in one another, tries among arguments and elements.
func TestTries(t *testing.T) {
	holdAll(t, []trial{
		{"f() -> try hd([]) catch error:R -> self() ! R end.", "f()", "!(<n@h.1.5.0>,badarg) 2; end normal 2", nil},
		took("f(V) -> display(try V catch X -> {no, X} end).", "f(1)", "1"), took("f(V) -> display(try throw(V) catch X -> {yes, X} end).", "f(1)", "{yes,1}"), took("f(V) -> display(try a, b, V + 1 catch X -> {no, X} end).", "f(1)", "2"),
		took("f(V) -> display(try throw(V) catch 1 -> a; {X} -> X; {X, Y} when X > Y -> b; {Y, X} -> [X | Y]; _ -> c end).", "f(1)", "a"), took("f(V) -> display(try throw(V) catch 1 -> a; {X} -> X; {X, Y} when X > Y -> b; {Y, X} -> [X | Y]; _ -> c end).", "f({7})", "7"), took("f(V) -> display(try throw(V) catch 1 -> a; {X} -> X; {X, Y} when X > Y -> b; {Y, X} -> [X | Y]; _ -> c end).", "f({2,1})", "b"), took("f(V) -> display(try throw(V) catch 1 -> a; {X} -> X; {X, Y} when X > Y -> b; {Y, X} -> [X | Y]; _ -> c end).", "f({1,2})", "[2|1]"), took("f(V) -> display(try throw(V) catch 1 -> a; {X} -> X; {X, Y} when X > Y -> b; {Y, X} -> [X | Y]; _ -> c end).", "f([])", "c"),
		took("f(V) -> display(try error(V) catch exit:X -> {a, X}; throw:X -> {b, X}; error:{X} -> {c, X}; _:X -> {d, X} end).", "f(1)", "{d,1}"), took("f(V) -> display(try error(V) catch exit:X -> {a, X}; throw:X -> {b, X}; error:{X} -> {c, X}; _:X -> {d, X} end).", "f({1})", "{c,1}"), took("f(V) -> display(try exit(V) catch error:X -> {a, X}; throw:X -> {b, X}; exit:{X} -> {c, X}; _:X -> {d, X} end).", "f({1})", "{c,1}"),
		{"f() -> try throw(a) catch a -> throw(b); b -> display(no) end.", "f()", "end {nocatch,b} 0", nil},
		{"f() -> try try throw(a) catch a -> exit(b); b -> no end catch exit:b -> display(yes) end.", "f()", "display(yes) 1; end normal 1", nil},
		{"f() -> try try throw(a) catch b -> no end catch X -> display({outer, X}) end.", "f()", "display({outer,a}) 1; end normal 1", nil},
		{"f() -> try try throw(a) catch X when X == b -> no end, display(no) catch Y -> display({outer, Y}) end.", "f()", "display({outer,a}) 1; end normal 1", nil},
		{"f() -> try throw(try throw(a) catch X -> {X} end) catch Y -> display(Y) end.", "f()", "display({a}) 1; end normal 1", nil},
		{"f() -> try throw(a) catch X -> try throw({X}) catch Y -> display({X, Y}) end end.", "f()", "display({a,{a}}) 1; end normal 1", nil},
		{"f() -> try throw(a) catch X -> try display(X) catch Y -> display({X, Y}) end end.", "f()", "display(a) 1; display({a,{b}}) 2; end normal 2", come("", "throw:{b}")},
		{"f() -> try try try error(a) catch b -> 1 end catch exit:a -> 2 end catch _:a -> display(3) end.", "f()", "display(3) 1; end normal 1", nil},
		{"f() -> display({1, try throw(2) catch X -> X end, [3, try 4 catch _ -> 0 end | try error(5) catch _:Y -> Y end]}).", "f()", "display({1,2,[3,4|5]}) 1; end normal 1", nil},
		{"f() -> display(g(1, try {a, throw(2)} catch X -> X end, 3)). g(A, B, C) -> [A, B | C].", "f()", "display([1,2|3]) 2; end normal 2", nil},
		{"f() -> (try hd([]) catch error:_ -> p end) ! (try {1, exit(x)} catch exit:X -> {X} end).", "f()", "!(p,{x}) 1; end normal 1", nil},
		{"f() -> 1 + try 2 + throw(3) catch X -> X end + 4.", "f()", "end normal 0", nil},
		{"f() -> display(1 + try 2 + throw(3) catch X -> X end + 4).", "f()", "display(8) 1; end normal 1", nil},
		{"f() -> try g(5) catch N -> display(N) end. g(0) -> throw(deep); g(N) -> [g(N - 1)].", "f()", "display(deep) 7; end normal 7", nil},
		{"f() -> try g(3) catch N -> display(N) end. g(0) -> throw(0); g(N) -> try [g(N - 1)] catch N -> no; X -> display({N, X}), throw(N) end.", "f()", "display({1,0}) 5; display({2,1}) 6; display({3,2}) 7; display(3) 8; end normal 8", nil},
		{"f() -> try case throw(1) of _ -> no end catch X -> case {X} of {Y} -> display(Y) end end.", "f()", "display(1) 1; end normal 1", nil},
		{"f() -> try case 5 of 1 -> a end catch error:{case_clause, X} -> display(X) end.", "f()", "display(5) 1; end normal 1", nil},
		{"f() -> try 1 = 5 catch error:{badmatch, X} -> display(X) end.", "f()", "display(5) 1; end normal 1", nil},
		{"f() -> try g(5) catch error:X -> display(X) end. g(1) -> a.", "f()", "display(function_clause) 2; end normal 2", nil},
		{"f() -> try x:g(5) catch error:X -> display(X) end.", "f()", "display(undef) 2; end normal 2", nil},
		{"f() -> try a andalso b catch error:X -> display(X) end.", "f()", "display(badarg) 1; end normal 1", nil},
		{"f() -> try receive after a -> b end catch error:X -> display(X) end.", "f()", "display(timeout_value) 1; end normal 1", nil},
		{"f() -> try receive a -> throw(b) end catch X -> display(X) end.", "f()", "wait 0; display(b) 1; end normal 1", come("", "+a")},
		{"f() -> X = 1, try Y = 2, throw({X, Y}) catch {X, Z} -> display({X, Z}) end, display(X).", "f()", "display({1,2}) 1; display(1) 2; end normal 2", nil},
		{"f() -> {X = 1, try X = 2 catch error:{badmatch, Y} -> {X, Y} end, display(X)}.", "f()", "display(1) 1; end normal 1", nil},
	})
	for _, class := range []string{"error", "exit", "throw"} {
		for _, around := range []string{"{1, #, 2}", "[1, # | 2]", "g(1, #)", "x:g(1, #)", "a ! #", "# ! a", "display(#)", "1 + #", "{[#]}", "case # of _ -> a end", "X = #", "begin # end", "true andalso #", "receive after # -> a end", "try # catch nobody -> a end", "spawn(m, #, [])"} {
			phrase := fmt.Sprintf("f() -> display({a, try %s catch %s:R -> {b, R} end, c}). g(_, _) -> 1.", replaceOne(around, class+"(x)"), class)
			trial{phrase, "f()", "display({a,{b,x},c}) 1; end normal 1", nil}.hold(t)
		}
	}
}
