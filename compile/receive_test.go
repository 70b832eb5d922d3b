package compile_test

import "testing"

// P16.2: receives with clauses alone, with a time alone, with both.
func TestReceives(t *testing.T) {
	fits := "f() -> receive {a, X} when X > 1 -> display(X) after 10 -> display(no) end."
	holdAll(t, []trial{
		{fits, "f()", "display(2) 2; end normal 2", come("+{a,1} +{a,2}")},
		{fits, "f()", "display(2) 1; end normal 1", come("+{a,2} +{a,1}")},
		{fits, "f()", "wait till 10 0; over 0", come("")},
		{fits, "f()", "wait till 15 0; wait till 15 0; display(no) 1; end normal 1", come("@5", "@14", "@15")},
		{fits, "f()", "wait till 15 1; wait till 15 3; display(7) 4; end normal 4", come("@5 +b", "@6 +{a,1} +c", "@15 +{a,7}")},
		{fits, "f()", "wait till 15 1; display(no) 3; end normal 3", come("@5 +b", "@15 +{a,1}")},
		{fits, "f()", "wait till 10 0; display(no) 1; end normal 1", come("", "@99")},
		{"f() -> receive X -> display(X) end.", "f()", "wait 0; wait 0; display(a) 1; end normal 1", come("", "@7", "@9 +a")},
		{"f() -> receive X -> display(X) end.", "f()", "display(a) 1; end normal 1", come("+a +b")},
		{"f() -> receive a -> display(1); {X} -> display(X); b -> display(2) end.", "f()", "display(x) 2; end normal 2", come("+c +{x} +a")},
		{"f() -> receive a -> display(1) end, receive b -> display(2) end, receive X -> display(X) end.", "f()", "display(1) 3; display(2) 4; display(c) 5; end normal 5", come("+b +c +a")},
		{"f() -> receive a -> 1 end, receive X -> display(X) end, receive X -> display({X}) end.", "f()", "wait 2; display(b) 3; display({b}) 4; end normal 4", come("+b +b", "+a")},
		{"f() -> receive X when X == self() -> display(X); X when node() == X -> display({X}) end.", "f()", "wait 3; display({n@h}) 6; end normal 6", come("+a", "+n@h")},
		{"f() -> receive after 5 -> display(1) end.", "f()", "wait till 15 0; wait till 15 0; wait till 15 0; display(1) 1; end normal 1", come("@10", "@11 +a", "@14", "@15")},
		{"f() -> receive after 5 -> display(1) end, receive X -> display(X) end.", "f()", "wait till 5 0; wait till 5 0; display(1) 1; display(a) 2; end normal 2", come("+a", "+b", "@5 +c")},
		{"f() -> receive after 0 -> display(1) end.", "f()", "display(1) 1; end normal 1", come("+a")},
		{"f() -> receive after infinity -> display(1) end.", "f()", "wait 0; wait 0; wait 0; over 0", come("+a", "@1099511627776", "+b")},
		{"f() -> receive a -> display(1) after infinity -> display(2) end.", "f()", "wait 1; wait 1; display(1) 2; end normal 2", come("+b", "@1099511627776", "+a")},
		{"f() -> receive a -> display(1) after 0 -> display(2) end, receive X -> display(X) end.", "f()", "display(2) 3; display(b) 4; end normal 4", come("+b +c")},
		{"f() -> receive a -> display(1) after 0 -> display(2) end.", "f()", "display(1) 3; end normal 3", come("+b +c +a")},
		{"f() -> receive a -> 1 after 3 -> 2 end, receive b -> display(1) after 4 -> display(2) end.", "f()", "wait till 13 0; wait till 17 0; display(2) 1; end normal 1", come("@10", "@13", "@17")},
		{"f() -> receive a -> 1 after 3 -> 2 end, receive b -> display(1) after 4 -> display(2) end.", "f()", "wait till 13 0; wait till 15 0; display(2) 1; end normal 1", come("@10", "@11 +a", "@15")},
		{"f() -> receive a -> 1 after 3 -> 2 end, receive b -> display(1) end.", "f()", "wait till 13 1; wait 2; display(1) 3; end normal 3", come("@10 +x", "@12 +a", "+b")},
		{"f() -> display({receive X -> X end, receive Y -> Y after 1 -> c end, receive Z -> Z after 1 -> d end}).", "f()", "wait till 1 0; display({a,b,d}) 1; end normal 1", come("+a +b", "@1")},
		{"f(T) -> receive after T -> display(T) end.", "f(1099511627776)", "wait till 1099511627776 0; display(1099511627776) 1; end normal 1", come("", "@1099511627776")},
	})
}

// P16.2: times that are none raise where nothing fits, and only there; the cursor stays where it is.
func TestNoTimes(t *testing.T) {
	for _, time := range []string{"a", "-1", "1099511627777", "[]", "{}", "{0}", "<n@h.1.5.0>", "'Infinity'"} {
		holdAll(t, []trial{
			{"f(T) -> receive after T -> display(1) end.", "f(" + time + ")", "end timeout_value 0", come("+a")},
			{"f(T) -> receive a -> display(1) after T -> display(2) end.", "f(" + time + ")", "end timeout_value 1", come("+b")},
			{"f(T) -> receive a -> display(1) after T -> display(2) end.", "f(" + time + ")", "display(1) 2; end normal 2", come("+b +a")},
			{"f(T) -> try receive a -> 1 after T -> 2 end catch error:R -> display(R) end.", "f(" + time + ")", "display(timeout_value) 1; end normal 1", nil},
			// What the first one has passed over, the second one does not see, till something is taken, or a time is over.
			{"f(T) -> try receive a -> 1 after T -> 2 end catch error:_ -> receive X -> display(X) end, receive Y -> display({Y}) end end.", "f(" + time + ")", "wait 2; display(d) 3; display({b}) 4; end normal 4", come("+b +c", "+d")},
			{"f(T) -> try receive a -> 1 after T -> 2 end catch error:_ -> receive X -> display(X) after 0 -> display(0) end, receive Y -> display({Y}) end end.", "f(" + time + ")", "display(0) 3; display({b}) 4; end normal 4", come("+b +c")},
			{"f(T) -> try receive a -> 1 after T -> 2 end catch error:_ -> try receive b -> 3 after T -> 4 end catch error:_ -> receive after 2 -> 5 end, receive Y -> display({Y}) end end end.", "f(" + time + ")", "wait till 2 2; display({b}) 3; end normal 3", come("+b +c", "@2")},
		})
	}
}

// P16.2: receives in one another, in the time of another one, with other phrases around them.
func TestReceivesWithin(t *testing.T) {
	holdAll(t, []trial{
		{"f() -> receive a -> receive b -> display(1) after 5 -> display(2) end end.", "f()", "display(1) 4; end normal 4", come("+c +b +a")},
		{"f() -> receive a -> receive b -> display(1) after 5 -> display(2) end end.", "f()", "wait 1; wait till 8 2; display(2) 3; end normal 3", come("+c", "@3 +a", "@8")},
		{"f() -> receive a -> 1 after 2 -> receive b -> display(1) after 5 -> display(2) end end.", "f()", "wait till 2 1; wait till 7 2; wait till 7 3; display(1) 4; end normal 4", come("+c", "@2", "@3 +d", "@7 +b")},
		{"f() -> receive a -> display(1) after receive X -> X after 3 -> 0 end -> display(2) end.", "f()", "wait till 3 0; wait till 9 0; display(1) 1; end normal 1", come("", "@2 +7", "+a")},
		{"f() -> receive a -> display(1) after receive X -> X after 3 -> 0 end -> display(2) end.", "f()", "wait till 3 0; display(2) 1; end normal 1", come("", "@3")},
		{"f() -> receive X -> display(X) after receive b -> 5 end -> display(2) end.", "f()", "display(a) 2; end normal 2", come("+a +b")},
		{"f() -> receive X -> display(X) after receive X -> receive Y -> Y after X -> 1 end end -> display(2) end.", "f()", "wait till 3 0; wait till 4 0; display(2) 1; end normal 1", come("+3", "@3", "@4")},
		{"f() -> {g(receive X -> X end), receive Y -> display(Y) end}. g(X) -> display(X), receive a -> 1 after 1 -> receive b -> 2 end end.", "f()", "display(x) 2; wait till 1 5; display(y) 8; end normal 8", come("+x +y +z +b", "", "@1")},
		{"f() -> try receive a -> throw({receive X -> X end}) after 5 -> exit(no) end catch {Y} -> display(Y) end.", "f()", "wait till 5 1; display(b) 2; end normal 2", come("+b", "+a")},
		{"f() -> true andalso receive true -> receive false -> display(1) after 0 -> display(2) end end.", "f()", "display(1) 2; end normal 2", come("+false +true")},
		{"f() -> g(), g(), g(). g() -> receive X -> display(X) after 2 -> display(none) end.", "f()", "display(a) 2; wait till 2 3; display(none) 4; wait till 4 5; display(b) 6; end normal 6", come("+a", "", "@2", "", "@4 +b")},
	})
}

// P16.2: names that clauses bind, also where they fit in part alone, and what else binds these names.
func TestReceiveNames(t *testing.T) {
	holdAll(t, []trial{
		{"f() -> receive {X, 1} -> Y = 1; {1, X} -> Y = 2; Y -> X = 3 after 5 -> X = 4, Y = 5 end, display({X, Y}).", "f()", "display({7,2}) 1; end normal 1", come("+{1,7}")},
		{"f() -> receive {X, 1} -> Y = 1; {1, X} -> Y = 2; Y -> X = 3 after 5 -> X = 4, Y = 5 end, display({X, Y}).", "f()", "display({3,{7,7}}) 1; end normal 1", come("+{7,7}")},
		{"f() -> receive {X, 1} -> Y = 1; {1, X} -> Y = 2 after 5 -> X = 4, Y = 5 end, display({X, Y}).", "f()", "wait till 5 2; display({4,5}) 3; end normal 3", come("+{7,7} +{8,8}", "@5")},
		// The time's expression and its body bind and read what the clauses bind.
		{"f() -> receive {X, 1} -> display({yes, X}) after X = 10 -> display({no, X}) end.", "f()", "wait till 10 0; display({no,10}) 1; end normal 1", come("", "@10")},
		{"f() -> receive {X, 1} -> display({yes, X}) after X = 10 -> display({no, X}) end.", "f()", "wait till 10 2; wait till 10 3; display({no,10}) 4; end normal 4", come("+{5,2} +{6,3}", "+{7,7}", "@10")},
		{"f() -> receive {X, 1} -> display({yes, X}) after X = 10 -> display({no, X}) end.", "f()", "wait till 10 1; display({yes,9}) 2; end normal 2", come("+{5,2}", "+{9,1}")},
		{"f() -> receive {X, 1} -> a after X = 10 -> b end, display(X).", "f()", "wait till 10 1; display(10) 2; end normal 2", come("+{5,2}", "@10")},
		{"f() -> receive {X, 1} -> a after X = 10 -> b end, display(X).", "f()", "wait till 10 1; display(9) 2; end normal 2", come("+{5,2}", "@10 +{9,1}")},
		{"f() -> receive {X, Y, 1} -> a; {Y, X, 2} -> b after begin {X, Y, Z} = {5, 6, 7}, Z end -> Z end, display({X, Y}).", "f()", "wait till 7 1; display({5,6}) 2; end normal 2", come("+{1,2,3}", "@7")},
		{"f() -> receive {X, Y, 1} -> a; {Y, X, 2} -> b after begin {X, Y, Z} = {5, 6, 7}, Z end -> Z end, display({X, Y}).", "f()", "wait till 7 1; display({2,1}) 2; end normal 2", come("+{1,2,3}", "+{1,2,2}")},
		{"f() -> receive {X, 1} when X > 5 -> display(X) after X = 10 -> receive {Y, X} -> display({Y, X}) end end.", "f()", "wait till 10 1; wait 2; display({z,10}) 3; end normal 3", come("+{5,1}", "@10", "+{z,10}")},
		// A name that the time binds on some ways alone, which nobody reads.
		{"f(V) -> receive {X, 1} -> display(X) after case V of 1 -> X = 5; _ -> 6 end -> display(no) end.", "f(1)", "wait till 5 1; display(no) 2; end normal 2", come("+{a,b}", "@5")},
		{"f(V) -> receive {X, 1} -> display(X) after case V of 1 -> X = 5; _ -> 6 end -> display(no) end.", "f(2)", "wait till 6 1; display(z) 2; end normal 2", come("+{a,b}", "+{z,1}")},
		{"f(V) -> receive {X, 1} -> display(X) after try X = V, throw(3) catch T -> T end -> display(no) end.", "f(2)", "wait till 3 1; display(no) 2; end normal 2", come("+{a,b}", "@3")},
		{"f(V) -> receive {X, 1} -> display(X) after V andalso (X = 3) -> display(no) end.", "f(true)", "wait till 3 1; display(no) 2; end normal 2", come("+{a,b}", "@3")},
		// In the time of another one, and each with the same names.
		{"f() -> receive {X, 1} -> a after receive {X, 2} -> X after X = 3 -> X end -> b end, display(X).", "f()", "wait till 3 1; wait till 6 2; display(3) 3; end normal 3", come("+{9,9}", "@3", "@6")},
		{"f() -> receive {X, 1} -> a after receive {X, 2} -> X after X = 3 -> X end -> b end, display(X).", "f()", "wait till 3 1; wait till 7 3; display(5) 4; end normal 4", come("+{9,9}", "@2 +{5,2} +{8,8}", "@7")},
		{"f() -> receive {X, Y} when Y == 1 -> Z = a after receive {Y, X} when Y == 2 -> Z = 4; Z -> {X, Y} = {b, c}, 5 after X = Y = Z = 6 -> 7 end -> 8 end, display([X, Y | Z]).", "f()", "wait till 6 0; wait till 13 0; wait till 13 1; display([6,6|6]) 2; end normal 2", come("", "@6", "+{y,z}", "@13")},
		{"f() -> receive {X, Y} when Y == 1 -> Z = a after receive {Y, X} when Y == 2 -> Z = 4; Z -> {X, Y} = {b, c}, 5 after X = Y = Z = 6 -> 7 end -> 8 end, display([X, Y | Z]).", "f()", "wait till 6 0; wait till 5 0; wait till 5 1; display([b,c,{3,3}]) 2; end normal 2", come("", "+[{3,3}]", "+{y,z}", "@5")},
		// The time is evaluated ahead of all clauses, once.
		{"f() -> receive a -> display(1) after display(2) -> display(3) end.", "f()", "display(2) 1; display(1) 2; end normal 2", come("+a", "=0")},
		{"f() -> receive a -> display(1) after display(2) -> display(3) end.", "f()", "display(2) 1; wait till 4 2; wait till 4 3; display(3) 4; end normal 4", come("+b", "=4", "@3 +c", "@4")},
		{"f() -> receive a -> display(1) after display(2) -> display(3) end.", "f()", "display(2) 1; end x 1", come("+a", "exit:x")},
	})
}
