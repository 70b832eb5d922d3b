package match_test

import (
	"errors"
	"fmt"
	"math"
	"slices"
	"strings"
	"testing"

	"heddle/api"
	"heddle/check"
	"heddle/match"
	"heddle/parse"
	"heddle/sample"
)

// chain is the faults of an error, the outermost one ahead, each without what is under it.
func chain(err error) []api.Fault {
	var all []api.Fault
	var f *api.Fault
	for errors.As(err, &f) {
		all = append(all, api.Fault{Layer: f.Layer, At: f.At, Code: f.Code})
		err = f.Under
	}
	return all
}

// refused holds that New refuses nodes as check does, with check's fault under, and tells check's number.
func refused(t *testing.T, what string, l []api.Node, root int) api.Errno {
	t.Helper()
	_, err := check.Check(l, root)
	under := chain(err)
	if len(under) == 0 {
		t.Fatalf("%s: check takes it", what)
	}
	want := append([]api.Fault{fault(under[0].At, under[0].Code)}, under...)
	if r, err := match.New(l, root); !sample.IsFault(err, want...) || r != nil {
		t.Errorf("%s: %v, %v; want %v", what, r, err, want)
	}
	return under[0].Code
}

// allKinds has nodes of all kinds, and variables of all roles.
const allKinds = "-export([f/1, f/2]). f(X) when X, 1; not 2 -> {a, 'b c', 3}, [1, 2], [3 | X], -4, - X, - - 4, not 5, - a, {X, _} = {Y = 1, Z = {Y}}, [W | W] = [], {[]}, Y, {b = c}, {Y = 1}; " +
	"f({}) -> A = 4, case A of 5 when 6 -> 7; {8, B, B, A, _} -> 9 end, begin 10, 11 end, try 12 catch 13 -> 14; error:15 when 16 -> 17; _:18 -> 19 end, g ! [], receive 20 -> 21; 22 -> 23 after 24 -> 25 end, f(26), m:f(), f(27, 28), not 29, 30 + 31, 30 ++ 31, 32 -- 33, 32 andalso 33, 34 orelse 35, {abs(A), 1}, abs(f(A)), erlang:hd(A), self(), node(), node(A), erlang:self(), max(1, 2), setelement(1, {}, 2), nodes(), throw(1), exit(1, 2), {A ! A}, [1 + 2 | A], f(A) andalso true, {A ++ A}, tuple_size(A). f(_, _) -> self(). -module(n)."

// P14.1: check's number, its fault under, at its place: each number that there is.
func TestNewRefuses(t *testing.T) {
	met := map[api.Errno]int{}
	for _, s := range []string{
		"-module(erlang).", "-module(m).\n  -module(m).", "-module(m). -export([g/0]).", "-module(m). f() -> 1. f() -> 2.", "-module(m). f(1) -> 1; f() -> 2.", "-module(m). f(1 + 1) -> 2.", "-module(m). f(X) when X = 1 -> 2.",
		"-module(m). f() -> X.", "-module(m). f() -> _.", "-module(m). f(X) -> case X of 1 -> Y = 2; 2 -> 3 end, Y.", "-module(m). f() -> g().", "-module(m). f() -> m:g(" + strings.Repeat("1, ", 255) + "1).",
	} {
		l, root, err := parse.Text(s)
		if err != nil {
			t.Fatal(err)
		}
		met[refused(t, s, l, root)]++
	}
	var names []string
	for i := range api.MaxVars + 1 {
		names = append(names, fmt.Sprint("X", i))
	}
	l, root, err := parse.Text("-module(m). f({" + strings.Join(names, ", ") + "}) -> 1.")
	if err != nil {
		t.Fatal(err)
	}
	met[refused(t, "1025 names", l, root)]++

	p := made(t, allKinds)
	for i := -2; i < len(p.l)+2; i++ {
		if i != p.root {
			met[refused(t, fmt.Sprint("root ", i), p.l, i)]++
		}
	}
	met[refused(t, "no nodes", nil, 0)]++
	refused(t, "no nodes", []api.Node{}, math.MaxInt)
	twice := slices.Clone(p.l)
	twice[p.root].Kids = []int{p.l[p.root].Kids[0], p.l[p.root].Kids[0]}
	met[refused(t, "a module twice", twice, p.root)]++
	wide, high := many(65530), many(0)
	met[refused(t, "too many nodes", wide, len(wide)-1)]++
	for range 500 {
		high = append(high[:len(high)-6], api.Node{Kind: api.ETuple, Kids: []int{len(high) - 7}})
		high = append(high, frame(len(high)-1)...)
	}
	met[refused(t, "too high", high, len(high)-1)]++
	for _, code := range []api.Errno{222, 5, 221, 6, 240, 241, 242, 243, 244, 245, 246, 247, 248, 249} {
		if met[code] == 0 {
			t.Errorf("no program met %v", code)
		}
	}
}

// many is a program whose body is a tuple of so many elements: six nodes about it, and one more.
func many(n int) []api.Node {
	var l []api.Node
	var kids []int
	for i := range n {
		l = append(l, api.Node{Kind: api.ENil})
		kids = append(kids, i)
	}
	l = append(l, api.Node{Kind: api.ETuple, Kids: kids})
	return append(l, frame(n)...)
}

// frame is the six nodes about a body's one expression, which stands just ahead of them.
func frame(i int) []api.Node {
	return []api.Node{{Kind: api.NBody, Kids: []int{i}}, {Kind: api.NArgs}, {Kind: api.NClause, Text: "f", Kids: []int{i + 2, i + 1}}, {Kind: api.NFunction, Text: "f", Kids: []int{i + 3}}, {Kind: api.NModule, Text: "m", Kids: []int{i + 4}}, {Kind: api.NProgram, Kids: []int{i + 5}}}
}

// P14.1: at the limits of trees there are rules.
func TestNewAtLimits(t *testing.T) {
	l := many(65529)
	r, err := match.New(l, len(l)-1)
	if err != nil || len(l) != 65536 {
		t.Fatal(len(l), err)
	}
	if _, ok, err := r.Match(65529, tuple(), nil); ok || err != nil {
		t.Error(ok, err)
	}
	if _, ok, err := r.Test(65529, nil, who()); ok || err != nil {
		t.Error(ok, err)
	}
	if env, ok, err := r.Match(0, null(), row(t, "1")); !ok || err != nil || !same(env, row(t, "1")) {
		t.Error(env, ok, err)
	}
}

// P14.1: nodes that are changed afterwards change nothing; and New changes none.
func TestNewKeepsNothing(t *testing.T) {
	l, root, err := parse.Text("-module(m). f({X, [1 | Y]}, X) when X + 1 == 3, self() /= Y; Y == a -> ok.")
	if err != nil {
		t.Fatal(err)
	}
	want := copied(l)
	r, err := match.New(l, root)
	if err != nil {
		t.Fatal(err)
	}
	for i := range l {
		if !slices.Equal(l[i].Kids, want[i].Kids) || l[i].Text != want[i].Text {
			t.Errorf("node %d: %+v, was %+v", i, l[i], want[i])
		}
	}
	p := program{r, copied(l), root}
	for i := range l {
		for k := range l[i].Kids {
			l[i].Kids[k] = len(l) - 1
		}
		l[i] = api.Node{Kind: api.NClause, Text: "g", Int: 7}
	}
	for args, want := range map[string]string{"{2, [1 | b]}; 2": "0: 2; b", "{2, [1 | b]}; 3": "-1: ", "{3, [1 | b]}; 3": "-1: ", "{3, [1 | a]}; 3": "0: 3; a", "{2, [2 | a]}; 2": "-1: "} {
		k, env, err := p.Choose(p.clauses(), row(t, args), nil, who())
		if got := fmt.Sprint(k, ": ", show(env...)); got != want || err != nil {
			t.Errorf("%s: %s, %v; want %s", args, got, err, want)
		}
	}
}

// copied is the same nodes in memory of their own.
func copied(l []api.Node) []api.Node {
	l = slices.Clone(l)
	for i := range l {
		l[i].Kids = slices.Clone(l[i].Kids)
	}
	return l
}

// P14.1: of rules that nobody made all calls answer ErrZero, whatever else is wrong.
func TestNobodysRules(t *testing.T) {
	bad := []api.Term{{Kind: 9}}
	for _, r := range []*match.Rules{nil, {}, new(match.Rules)} {
		for _, i := range []int{0, -1, 1, math.MaxInt, math.MinInt} {
			for _, c := range []calls{
				{i: i, term: num(1), who: who(), rows: []int{i}, args: []api.Term{num(1)}}, {i: i, rows: []int{i, i}}, {i: i, term: bad[0], env: bad, args: bad, who: api.Who{Self: bad[0]}},
			} {
				c.p.Rules = r
				c.match(t, fault(0, api.ErrZero))
				c.test(t, fault(0, api.ErrZero))
				c.guard(t, fault(0, api.ErrZero))
				c.choose(t, fault(0, api.ErrZero))
			}
		}
	}
}

// P14.1: two rules know nothing of one another.
func TestTwoRules(t *testing.T) {
	a, b := made(t, "f(1) -> ok."), made(t, "f(2) -> ok.")
	for range 2 {
		for _, c := range []struct {
			p program
			n int64
		}{{a, 1}, {b, 2}} {
			for n := range int64(4) {
				if _, ok, err := c.p.Match(c.p.patterns()[0], num(n), nil); ok != (n == c.n) || err != nil {
					t.Errorf("%d: %v, %v", n, ok, err)
				}
			}
		}
	}
}

// rulesOf is the rules of nodes.
func rulesOf(t *testing.T, l []api.Node, root int) *match.Rules {
	t.Helper()
	r, err := match.New(l, root)
	if err != nil {
		t.Fatal(err)
	}
	return r
}
