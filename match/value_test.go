package match_test

import (
	"fmt"
	"math"
	"slices"
	"strings"
	"testing"

	"heddle/api"
	"heddle/bif"
	"heddle/parse"
	"heddle/sample"
)

// tests: each line is a test of the variables A, B, C, D, whose slots are 0 to 3, an environment, and what the test comes to: a value, "fails", or an unset slot.
type tests []struct{ test, env, want string }

func (l tests) hold(t *testing.T) {
	t.Helper()
	for _, c := range l {
		p := asking(t, c.test)
		want := c.want
		if want != "fails" && !strings.HasPrefix(want, "slot ") {
			want = show(read(t, want))
		}
		comesTo(t, p, p.tests()[0], c.test, row(t, c.env), want)
	}
}

// asking is a program with a guard of the variables A, B, C, D.
func asking(t *testing.T, guard string) program {
	t.Helper()
	return made(t, "f(A, B, C, D) when "+guard+" -> ok.")
}

// comesTo holds what Test answers of a node, told as a text.
func comesTo(t *testing.T, p program, i int, what string, env []api.Term, want string) {
	t.Helper()
	x, ok, err := p.Test(i, env, who())
	got := told(err, "fails")
	if ok {
		got = show(x)
	}
	if got != want || !ok && !sample.IsZero(x) || ok && err != nil {
		t.Errorf("%s, env %s: %s, %v, %v; want %s", cut(what), cut(show(env...)), cut(got), ok, err, cut(want))
	}
}

// The chapter's second example.
func TestTestExample(t *testing.T) {
	tests{{"A + 1 > 2", "2", "true"}, {"A + 1 > 2", "a", "fails"}}.hold(t)
	guards{{"hd(A) == 1; true", "5", "yes"}}.hold(t)
}

// P14.3: numbers that are no nodes', whatever else is wrong.
func TestTestRange(t *testing.T) {
	p := asking(t, "A == 1")
	for _, i := range []int{-1, len(p.l), len(p.l) + 1, math.MinInt, math.MaxInt, -len(p.l), 1 << 32, -1 << 32} {
		for _, c := range []calls{{env: row(t, "1"), who: who()}, {who: who()}, {env: []api.Term{{Kind: 9}}}} {
			c.p, c.i = p, i
			c.test(t, fault(0, api.ErrRange))
			c.guard(t, fault(0, api.ErrRange))
		}
	}
}

// P14.3, P14.4: nodes of every kind, below the root and beside it; ErrRule is ahead of what is wrong with terms and processes.
func TestTestEveryNode(t *testing.T) {
	p := made(t, allKinds)
	m := modelOf(p)
	for i, n := range p.l {
		env := slices.Repeat([]api.Term{num(1)}, 8)
		wrong := []calls{{env: env, who: who()}, {who: who()}, {env: env}, {env: []api.Term{{Kind: 9}}, who: who()}}
		for k := range wrong {
			wrong[k].p, wrong[k].i = p, i
		}
		if m.isTest(i) {
			if _, _, err := p.Test(i, env, who()); err != nil {
				t.Errorf("Test of %+v: %v", n, err)
			}
		} else {
			for _, c := range wrong {
				c.test(t, fault(0, api.ErrRule))
			}
		}
		if n.Kind == api.NGuard {
			if _, err := p.Guard(i, env, who()); err != nil {
				t.Errorf("Guard of %+v: %v", n, err)
			}
		} else {
			for _, c := range wrong {
				c.guard(t, fault(0, api.ErrRule))
			}
		}
	}
	p, _, _, _ = beside(t)
	for i := range p.l {
		if !slices.Contains(parse.Below(p.l, p.root), i) {
			calls{p: p, i: i, who: who()}.test(t, fault(0, api.ErrRule))
			calls{p: p, i: i, who: who()}.guard(t, fault(0, api.ErrRule))
		}
	}
}

// P14.3: built-ins that may not stand in guards, functions of the module and of others; those that may, however they are called.
func TestTestCalls(t *testing.T) {
	p := made(t, "f(A) -> {max(1, A)}, min(1, 2), setelement(1, {1}, 2), list_to_tuple([]), tuple_to_list({}), integer_to_list(1), list_to_integer([]), atom_to_list(a), list_to_atom([]), throw(1), error(1), exit(1), spawn(a, b, []), nodes(), make_ref(), display(1), g(), m:g(), k:g(), hd(1), hd(A), A ++ A, [A -- A]. g() -> 1. hd(_) -> 2.")
	for _, i := range p.body() {
		calls{p: p, i: i, env: row(t, "1"), who: who()}.test(t, fault(0, api.ErrRule))
	}
	p = made(t, "f(A) -> erlang:hd(A), abs(-1), erlang:self(), self(), {node(), node(A)}. hd(_) -> 2.")
	for k, want := range []string{"1", "1", "<n@h.1.5.0>", "<n@h.1.5.0>", "fails"} {
		comesTo(t, p, p.body()[k], fmt.Sprint("call ", k), row(t, "[1]"), want)
	}
}

// P14.3: what is no term, the first of several, ahead of what is wrong with a process; this ahead of unset slots, though nothing asks who it is.
func TestTestNoTerms(t *testing.T) {
	p := asking(t, "A == 1")
	test, guard := calls{p: p, i: p.tests()[0], who: who()}, calls{p: p, i: p.nodes(api.NGuard)[0], who: who()}
	for k, n := range noTerms() {
		other := noTerms()[(k+1)%len(noTerms())]
		for _, who := range []api.Who{who(), {}, {Self: other.t}} {
			for slot, env := range map[int][]api.Term{0: {n.t}, 1: {num(1), n.t}, 3: {{}, num(1), unsetToo(), n.t, num(1), other.t}} {
				test.env, guard.env, test.who, guard.who = env, env, who, who
				test.test(t, n.at(slot)...)
				guard.guard(t, n.at(slot)...)
			}
		}
	}
	for _, s := range strangers() {
		for _, env := range [][]api.Term{nil, {num(1)}, {unsetToo(), num(1)}} {
			test.env, guard.env, test.who, guard.who = env, env, s.who, s.who
			test.test(t, s.faults...)
			guard.guard(t, s.faults...)
		}
	}
}

// P14.3: unset slots, where the test comes to them, and where it does not.
func TestTestUnset(t *testing.T) {
	tests{
		{"A", "", "slot 0"}, {"B", "1", "slot 1"}, {"B", "1; -; 2", "slot 1"}, {"D", "1; 2; 3", "slot 3"}, {"A", "1", "1"}, {"{A, B}", "", "slot 0"}, {"{B, A}", "", "slot 1"}, {"{A, B}", "1", "slot 1"}, {"{1, [2 | C]}", "1; 1; -", "slot 2"}, {"[A | B]", "-; 1", "slot 0"}, {"[A | B]", "1", "slot 1"},
		{"hd(1) + A", "", "fails"}, {"A + hd(1)", "", "slot 0"}, {"A + hd(1)", "1", "fails"}, {"{hd(1), A}", "", "fails"}, {"{A, hd(1)}", "", "slot 0"}, {"[hd(1) | A]", "", "fails"}, {"[A, hd(1)]", "", "slot 0"}, {"hd(A)", "", "slot 0"}, {"- A", "", "slot 0"}, {"not A", "", "slot 0"}, {"element(hd(1), A)", "", "fails"}, {"element(A, hd(1))", "", "slot 0"},
		{"a + A", "", "slot 0"}, {"A + a", "", "slot 0"}, {"false and A", "", "slot 0"}, {"true or A", "", "slot 0"}, {"1 div 0 + A", "", "fails"}, {"A == A", "", "slot 0"}, {"node(A)", "", "slot 0"}, {"self() == B", "1", "slot 1"},
		{"false andalso A", "", "false"}, {"true andalso A", "", "slot 0"}, {"a andalso A", "", "fails"}, {"true orelse A", "", "true"}, {"false orelse A", "", "slot 0"}, {"a orelse A", "", "fails"}, {"A andalso false", "", "slot 0"}, {"A orelse true", "", "slot 0"}, {"hd(1) andalso A", "", "fails"}, {"hd(1) orelse A", "", "fails"}, {"(false andalso A) orelse B", "", "slot 1"},
		{"A", "-; 1", "slot 0"}, {"{A, A}", "-", "slot 0"}, {"{true orelse A, B}", "-; 2", "{true,2}"},
	}.hold(t)
	p := asking(t, "A")
	comesTo(t, p, p.tests()[0], "A, unset by its Kind", []api.Term{unsetToo()}, "slot 0")
	last := made(t, "f({"+manyNames(1024)+"}) when X1023 -> ok.")
	comesTo(t, last, last.tests()[0], "the last slot", slices.Repeat([]api.Term{num(1)}, 1023), "slot 1023")
	comesTo(t, last, last.tests()[0], "the last slot", append(slices.Repeat([]api.Term{num(1)}, 1023), word("a")), "a")
}

// P14.3: ints, atoms, variables, tuples and lists.
func TestTestValues(t *testing.T) {
	tests{
		{"0", "", "0"}, {"576460752303423487", "", "576460752303423487"}, {"a", "", "a"}, {"''", "", "''"}, {"'A b'", "", "'A b'"}, {"[]", "", "[]"}, {"{}", "", "{}"}, {"{1, {a}, []}", "", "{1,{a},[]}"}, {"[1]", "", "[1]"}, {"[1, 2]", "", "[1,2]"}, {"[1, 2 | a]", "", "[1,2|a]"},
		{"[1 | []]", "", "[1]"}, {"[1 | [2]]", "", "[1,2]"}, {"[1 | [2 | 3]]", "", "[1,2|3]"}, {"[1 | {2}]", "", "[1|{2}]"}, {"[[1], 2 | [[3]]]", "", "[[1],2,[3]]"}, {"[1 | A]", "[]", "[1]"}, {"[1 | A]", "[2,3]", "[1,2,3]"}, {"[1 | A]", "[2|3]", "[1,2|3]"}, {"[A | B]", "[1]; [2]", "[[1],2]"}, {"[A, A | A]", "[1]", "[[1],[1],1]"},
		{"{A, B, A}", "1; {2}", "{1,{2},1}"}, {"{A + 1, -A, [A * A]}", "3", "{4,-3,[9]}"}, {"[1 | tl(A)]", "[2,3]", "[1,3]"}, {"[hd(A) | tl(A)]", "[2|3]", "[2|3]"},
	}.hold(t)
	p := asking(t, "{A, B}")
	for _, x := range kinds() {
		for _, y := range kinds() {
			comesTo(t, p, p.tests()[0], "{A, B}", []api.Term{x, y}, show(tuple(x, y)))
		}
	}
	for _, i := range p.l[p.tests()[0]].Kids {
		for _, x := range kinds() {
			comesTo(t, p, i, "a variable", []api.Term{x, x, x}, show(x))
		}
	}
}

// P14.3: every operator and every built-in that may stand in guards, of terms of every kind, as bif.Call tells.
func TestTestOperators(t *testing.T) {
	for place, b := range bif.All() {
		if !b.Guard {
			continue
		}
		text := b.Name + "(A, B)"
		switch {
		case b.Arity == 1:
			text = b.Name + "(A)"
		case place < 21: // the operators are ahead
			text = "A " + b.Name + " B"
		}
		p := asking(t, text)
		for _, x := range kinds() {
			for _, y := range kinds() {
				args := []api.Term{x, y}[:b.Arity]
				want := "fails"
				if value, err := bif.Call(b.Name, args...); err == nil {
					want = show(value)
				}
				comesTo(t, p, p.tests()[0], text, []api.Term{x, y}, want)
			}
		}
	}
	tests{
		{"A + B", "1; 2", "3"}, {"A - B", "1; 2", "-1"}, {"A * B", "3; 4", "12"}, {"A div B", "-7; 2", "-3"}, {"A rem B", "-7; 2", "-1"}, {"A div B", "1; 0", "fails"}, {"A rem B", "1; 0", "fails"}, {"A + B", "576460752303423487; 1", "fails"}, {"-A", "-576460752303423488", "fails"}, {"-A", "576460752303423487", "-576460752303423487"}, {"+A", "a", "fails"}, {"A * B", "576460752303423487; 2", "fails"},
		{"A and B", "true; false", "false"}, {"A and B", "false; 1", "fails"}, {"A or B", "true; 1", "fails"}, {"A xor B", "true; false", "true"}, {"not A", "true", "false"}, {"not A", "1", "fails"}, {"A == B", "1; 1", "true"}, {"A /= B", "1; 1", "false"}, {"A =< B", "1; a", "true"}, {"A < B", "1; 1", "false"}, {"A >= B", "1; 1", "true"}, {"A > B", "[]; {}", "true"}, {"A =:= B", "{1}; {1}", "true"}, {"A =/= B", "{1}; {2}", "true"},
		{"hd(A)", "[1,2]", "1"}, {"tl(A)", "[1,2]", "[2]"}, {"hd(A)", "[]", "fails"}, {"length(A)", "[1,2]", "2"}, {"length(A)", "[1|2]", "fails"}, {"element(A, B)", "2; {a,b}", "b"}, {"element(A, B)", "3; {a,b}", "fails"}, {"tuple_size(A)", "{1,2}", "2"}, {"abs(A)", "-3", "3"}, {"abs(A)", "a", "fails"}, {"node(A)", "<m@h.1.5.0>", "'m@h'"}, {"node(A)", "1", "fails"}, {"is_atom(A)", "a", "true"}, {"is_list(A)", "[1|2]", "true"},
		{"- (- A)", "3", "3"}, {"A + B * C - D", "1; 2; 3; 4", "3"}, {"A - B - C", "1; 2; 3", "-4"}, {"not not A", "true", "true"}, {"hd(tl(A)) + length(A)", "[1,2,3]", "5"}, {"tl(hd(A))", "[1]", "fails"},
	}.hold(t)
}

// P14.3: andalso and orelse, of left and right values that are true, false, others, and that fail.
func TestTestShort(t *testing.T) {
	sides := map[string]string{"true": "true", "false": "false", "a": "a", "'True'": "'True'", "1": "1", "[]": "[]", "{true}": "{true}", "hd(1)": "fails", "A": "slot 0", "1 == 1": "true", "1 == 2": "false"}
	for left, leftValue := range sides {
		for right, rightValue := range sides {
			var both, either string
			switch leftValue {
			case "true":
				both, either = rightValue, "true"
			case "false":
				both, either = "false", rightValue
			case "slot 0":
				both, either = "slot 0", "slot 0"
			default:
				both, either = "fails", "fails"
			}
			tests{{left + " andalso " + right, "", both}, {left + " orelse " + right, "", either}, {"(" + left + " andalso " + right + ") orelse " + left, "", orElse(both, leftValue)}}.hold(t)
		}
	}
	tests{
		{"A andalso B", "true; {1}", "{1}"}, {"A orelse B", "false; {1}", "{1}"}, {"A andalso B", "false; {1}", "false"}, {"A orelse B", "true; {1}", "true"}, {"A andalso B", "{true}; true", "fails"}, {"A orelse B", "<n@h.1.5.0>; true", "fails"}, {"A andalso B andalso C", "true; true; 3", "3"}, {"A andalso B andalso C", "true; 2; true", "fails"}, {"A andalso hd(B)", "true; []", "fails"}, {"A andalso hd(B)", "false; []", "false"},
		{"{A andalso B}", "true; c", "{c}"}, {"not (A orelse B)", "false; false", "true"},
	}.hold(t)
}

// orElse is what orelse comes to, by its sides.
func orElse(left, right string) string {
	switch left {
	case "true":
		return "true"
	case "false":
		return right
	}
	if strings.HasPrefix(left, "slot ") {
		return left
	}
	return "fails"
}

// P14.3: self and node without arguments are the process's.
func TestTestWho(t *testing.T) {
	p := asking(t, "{self(), node(), erlang:self(), erlang:node(), node(self())}")
	for _, w := range []api.Who{who(), {Self: pid("a@b", 0, 0, 0), Node: "c@d"}, {Self: pid("A-1@x.y", 1<<32-1, 1<<32-1, 1<<32-1), Node: strings.Repeat("n", 62) + "@h"}} {
		x, ok, err := p.Test(p.tests()[0], nil, w)
		want := tuple(w.Self, word(w.Node), w.Self, word(w.Node), word(w.Self.Text))
		if !ok || err != nil || !sample.Same(x, want) {
			t.Errorf("%v: %s, %v, %v", w, show(x), ok, err)
		}
	}
}

// P14.3: tuples and lists at and beyond MaxSize and MaxDepth; beyond them the test fails, where it comes to them.
func TestTestLimits(t *testing.T) {
	half, rest := proper(sample.Ones(2046)...), proper(sample.Ones(2045)...) // 2048 and 2047 parts
	deep := sample.Chain(api.MaxDepth-2, tuple())                            // one less than may be
	for _, c := range []struct {
		test string
		env  []api.Term
		want api.Term
	}{
		{"{A, B}", []api.Term{half, rest}, tuple(half, rest)}, {"{A, B}", []api.Term{half, half}, api.Term{}}, {"{A, B, []}", []api.Term{half, rest}, api.Term{}}, {"{A}", []api.Term{tuple(sample.Ones(4095)...)}, api.Term{}}, {"{A}", []api.Term{tuple(sample.Ones(4094)...)}, tuple(tuple(sample.Ones(4094)...))},
		{"[A | B]", []api.Term{half, rest}, list(append([]api.Term{half}, rest.Args...)...)}, {"[A | B]", []api.Term{half, half}, list(append([]api.Term{half}, half.Args...)...)}, {"[A, 1 | B]", []api.Term{half, half}, api.Term{}}, {"[1 | A]", []api.Term{proper(sample.Ones(4094)...)}, api.Term{}}, {"[1 | A]", []api.Term{proper(sample.Ones(4093)...)}, proper(sample.Ones(4094)...)},
		{"{A}", []api.Term{deep}, tuple(deep)}, {"{{A}}", []api.Term{deep}, api.Term{}}, {"[A]", []api.Term{deep}, proper(deep)}, {"[A]", []api.Term{tuple(deep)}, api.Term{}}, {"[1 | A]", []api.Term{proper(deep)}, proper(num(1), deep)}, {"[1 | A]", []api.Term{tuple(deep)}, api.Term{}}, {"[{A} | 1]", []api.Term{deep}, api.Term{}},
		{"tuple_size({A, A})", []api.Term{half}, api.Term{}}, {"hd([A, A])", []api.Term{half}, api.Term{}}, {"true orelse {A, A}", []api.Term{half}, word("true")}, {"{A, B} == {A, B}", []api.Term{half, rest}, word("true")}, {"{{A, A}, B}", []api.Term{half}, api.Term{}}, {"{{{A}}, B}", []api.Term{deep}, api.Term{}},
	} {
		want := "fails"
		if !sample.IsZero(c.want) {
			want = show(c.want)
		}
		p := asking(t, c.test)
		comesTo(t, p, p.tests()[0], c.test, c.env, want)
	}
	// All parts are gone through ahead of what is made of them.
	p := asking(t, "{A, A, B}")
	comesTo(t, p, p.tests()[0], "{A, A, B}", []api.Term{half}, "slot 1")
	p = asking(t, "[A, A | B]")
	comesTo(t, p, p.tests()[0], "[A, A | B]", []api.Term{half}, "slot 1")
	p = asking(t, "{"+strings.TrimSuffix(strings.Repeat("1, ", 4095), ", ")+"}, {"+strings.TrimSuffix(strings.Repeat("1, ", 4096), ", ")+"}, "+strings.Repeat("{", 256)+strings.Repeat("}", 256)+", "+strings.Repeat("{", 257)+strings.Repeat("}", 257))
	comesTo(t, p, p.tests()[0], "4095 ones", nil, show(tuple(sample.Ones(4095)...)))
	comesTo(t, p, p.tests()[1], "4096 ones", nil, "fails")
	comesTo(t, p, p.tests()[2], "256 tuples", nil, show(sample.Chain(255, tuple())))
	comesTo(t, p, p.tests()[3], "257 tuples", nil, "fails")
}
