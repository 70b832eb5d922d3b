package match_test

import (
	"fmt"
	"math"
	"slices"
	"strings"
	"testing"

	"heddle/api"
	"heddle/parse"
)

// choices: each line is a program, args and an environment, and what Choose comes to of the clauses of its first function (behind "in ", of the clauses within it): the place and the environment, "none", or an unset slot.
type choices []struct{ forms, args, env, want string }

func (l choices) hold(t *testing.T) {
	t.Helper()
	for _, c := range l {
		forms, within := strings.CutPrefix(c.forms, "in ")
		p := made(t, forms)
		clauses := p.clauses()
		if within {
			clauses = p.inner()
		}
		chosen(t, p, c.forms, clauses, row(t, c.args), row(t, c.env), c.want)
	}
}

// chosen holds what Choose answers, told as a text.
func chosen(t *testing.T, p program, what string, clauses []int, args, env []api.Term, want string) {
	t.Helper()
	k, behind, err := p.Choose(clauses, args, env, who())
	got := told(err, fmt.Sprintf("%d: %s", k, show(behind...)))
	if err == nil && k == -1 && len(behind) == 0 {
		got = "none"
	}
	if got != want || err != nil && (k != 0 || len(behind) > 0) {
		t.Errorf("%s, %s, env %s: %s, %v; want %s", cut(what), cut(show(args...)), cut(show(env...)), cut(got), err, cut(want))
	}
}

// P14.5: numbers that are no nodes', wherever they stand, ahead of nodes that are no clauses, and of all else.
func TestChooseRange(t *testing.T) {
	p := made(t, "f(X) -> ok.")
	clause := p.clauses()[0]
	for _, i := range []int{-1, len(p.l), len(p.l) + 1, math.MinInt, math.MaxInt, -len(p.l), 1<<32 + clause, -1 << 32} {
		for _, rows := range [][]int{{i}, {clause, i}, {i, clause}, {p.root, i}, {clause, p.root, clause, i}, {i, i}} {
			for _, c := range []calls{{args: row(t, "1"), who: who()}, {args: []api.Term{{}}, who: who()}, {env: []api.Term{{Kind: 9}}}} {
				c.p, c.rows = p, rows
				c.choose(t, fault(0, api.ErrRange))
			}
		}
	}
}

// P14.5: nodes that are no clauses, of every kind, below the root and beside it, at their place, the first of several; ahead of all that is wrong behind them.
func TestChooseRule(t *testing.T) {
	p := made(t, allKinds)
	clause := p.clauses()[0]
	clauses := 0
	for i, n := range p.l {
		if n.Kind == api.NClause {
			clauses++
			if _, _, err := p.Choose([]int{i}, nil, nil, who()); err != nil {
				t.Errorf("%+v: %v", n, err)
			}
			continue
		}
		for _, c := range []calls{{args: row(t, "1"), who: who()}, {args: []api.Term{{}}, who: who()}, {env: []api.Term{{Kind: 9}}, who: who()}, {args: row(t, "1")}} {
			c.p = p
			for place, rows := range map[int][]int{0: {i, clause, p.root}, 1: {clause, i}, 3: {clause, clause, clause, i, p.root}} {
				c.rows = rows
				c.choose(t, fault(place, api.ErrRule))
			}
		}
	}
	if clauses < 8 {
		t.Error(clauses, "clauses")
	}
	p, _, _, other := beside(t)
	for i := range p.l {
		if !slices.Contains(parse.Below(p.l, p.root), i) {
			calls{p: p, rows: []int{p.clauses()[0], i}, args: row(t, "1"), who: who()}.choose(t, fault(1, api.ErrRule))
		}
	}
	calls{p: p, rows: []int{other}, args: row(t, "1"), who: who()}.choose(t, fault(0, api.ErrRule))
}

// P14.5: what is no term among args, unset ones too, ahead of env, this ahead of who, this ahead of unset slots; with clauses and without.
func TestChooseNoTerms(t *testing.T) {
	p := made(t, "f(X) when X -> case 1 of X -> 2 end.")
	for _, rows := range [][]int{p.clauses(), nil, {}, p.inner()} {
		for k, n := range append(noTerms(), noTerm{api.Term{}, []api.Fault{{Layer: "term", Code: api.ErrTerm}}}, noTerm{unsetToo(), []api.Fault{{Layer: "term", Code: api.ErrTerm}}}) {
			other := noTerms()[(k+1)%len(noTerms())]
			for place, args := range map[int][]api.Term{0: {n.t}, 1: {num(1), n.t, other.t}, 3: {num(1), num(1), num(1), n.t}} {
				calls{p: p, rows: rows, args: args, who: who()}.choose(t, n.at(place)...)
				calls{p: p, rows: rows, args: args, env: []api.Term{other.t}}.choose(t, n.at(place)...)
			}
			if n.t.Kind == 0 {
				continue
			}
			for slot, env := range map[int][]api.Term{0: {n.t}, 1: {num(1), n.t}, 3: {{}, num(1), unsetToo(), n.t, num(1), other.t}} {
				calls{p: p, rows: rows, args: row(t, "1"), env: env, who: who()}.choose(t, n.at(slot)...)
				calls{p: p, rows: rows, args: row(t, "1"), env: env}.choose(t, n.at(slot)...)
			}
		}
		for _, s := range strangers() {
			calls{p: p, rows: rows, args: row(t, "1"), who: s.who}.choose(t, s.faults...)
			calls{p: p, rows: rows, env: []api.Term{unsetToo()}, who: s.who}.choose(t, s.faults...)
		}
	}
}

// P14.5: no clauses, and none that fits.
func TestChooseNone(t *testing.T) {
	p := made(t, "f(X, 1) when X > 1 -> ok; f(2, Y) -> ok.")
	for _, args := range []string{"", "1", "2; 1", "2; 2", "1; 2; 3"} {
		chosen(t, p, "no clauses", nil, row(t, args), row(t, "1; 2"), "none")
		chosen(t, p, "no clauses", []int{}, row(t, args), nil, "none")
	}
	choices{{"f(X, 1) when X > 1 -> ok; f(2, Y) -> ok.", "1; 1", "", "none"}, {"f(X, 1) when X > 1 -> ok; f(2, Y) -> ok.", "1; 2", "5; 6", "none"}, {"f(1) -> ok; f(2) -> ok; f({}) -> ok.", "3", "1; 2", "none"}}.hold(t)
}

// P14.5: clauses of functions with fewer, as many and more args; and clauses of other kinds.
func TestChooseArgs(t *testing.T) {
	for n := range 5 {
		p := made(t, "f("+strings.TrimSuffix(strings.Repeat("_, ", n), ", ")+") -> ok.")
		for m := range 6 {
			want := "none"
			if n == m {
				want = "0: "
			}
			chosen(t, p, fmt.Sprint(n, " patterns"), p.clauses(), slices.Repeat([]api.Term{num(1)}, m), nil, want)
		}
	}
	p := made(t, "f("+manyNames(255)+") -> ok.")
	most := slices.Repeat([]api.Term{num(1)}, 255)
	chosen(t, p, "255 patterns", p.clauses(), most, nil, "0: "+show(most...))
	chosen(t, p, "255 patterns", p.clauses(), append(most, num(1)), nil, "none")
	for _, s := range []string{"in f() -> case 1 of _ -> 2 end.", "in f() -> receive _ -> 2 end.", "in f() -> try 1 catch _ -> 2 end.", "in f() -> try 1 catch error:_ -> 2 end.", "in f() -> try 1 catch _:_ -> 2 end.", "in f() -> case 1 of {_, _} = _ -> 2 end."} {
		choices{{s, "", "", "none"}, {s, "{1,2}", "", "0: "}, {s, "{1,2}; {1,2}", "", "none"}, {s, "{1,2}", "7; -; 8", "0: 7; -; 8"}}.hold(t)
	}
	// The functions of one row need not be the same: each clause has its own number of patterns.
	p = made(t, "f() -> case 1 of {X} -> 2 end. g(X, Y) -> 3. h(X) -> 4.")
	all := []int{p.nodes(api.NClause)[0], p.inner()[0], p.nodes(api.NClause)[2], p.nodes(api.NClause)[3]}
	chosen(t, p, "several", all, nil, nil, "0: ")
	chosen(t, p, "several", all, row(t, "{1}"), nil, "1: 1")
	chosen(t, p, "several", all, row(t, "1; 2"), nil, "2: 1; 2")
	chosen(t, p, "several", all, row(t, "1"), row(t, "-; 5"), "3: 1; 5")
	chosen(t, p, "several, the other way round", []int{all[3], all[1]}, row(t, "{1}"), nil, "0: {1}")
	chosen(t, p, "one twice", []int{all[3], all[3]}, row(t, "{1}"), nil, "0: {1}")
}

// P14.5: the first clause that fits, with and without guards; the args from the left, each with what those ahead have bound.
func TestChooseFirst(t *testing.T) {
	const three = "f(1) -> a; f(X) when X > 5 -> b; f(X) -> c."
	choices{
		{three, "1", "", "0: "}, {three, "6", "", "1: 6"}, {three, "5", "", "2: 5"}, {three, "{}", "", "1: {}"}, {three, "1", "9", "0: 9"}, {three, "5", "9; 9", "2: 5; 9"}, {three, "", "", "none"}, {three, "1; 1", "", "none"},
		{"f(X, X) -> 1; f(X, Y) -> 2.", "1; 1", "", "0: 1"}, {"f(X, X) -> 1; f(X, Y) -> 2.", "1; 2", "", "1: 1; 2"}, {"f({X, [Y | Z]}, X) -> ok.", "{1,[2]}; 1", "", "0: 1; 2; []"}, {"f({X, [Y | Z]}, X) -> ok.", "{1,[2]}; 2", "", "none"}, {"f({X}, [X | Y], Y) -> ok.", "{1}; [1,2]; [2]", "", "0: 1; [2]"}, {"f({X}, [X | Y], Y) -> ok.", "{1}; [1,2]; 2", "", "none"},
		{"f(X) when X -> 1; f(X) when not X -> 2.", "true", "", "0: true"}, {"f(X) when X -> 1; f(X) when not X -> 2.", "false", "", "1: false"}, {"f(X) when X -> 1; f(X) when not X -> 2.", "a", "", "none"}, {"f(X) when hd(X) -> 1; f(X) -> 2.", "a", "", "1: a"}, {"f(X) when hd(X) -> 1; f(X) -> 2.", "[true]", "", "0: [true]"},
		{"f(X) when X == 1; X == 2, true; hd(X) -> 1; f(_) when false; true -> 2.", "2", "", "0: 2"}, {"f(X) when X == 1; X == 2, true; hd(X) -> 1; f(_) when false; true -> 2.", "3", "", "1: "}, {"f(X) when self() == X -> 1; f(X) when node() == X -> 2.", "<n@h.1.5.0>", "", "0: <n@h.1.5.0>"}, {"f(X) when self() == X -> 1; f(X) when node() == X -> 2.", "'n@h'", "", "1: n@h"},
		{"in f(A) -> case A of {A, B} when B > A -> 1; {B, _} when B > 1 -> 2; _ -> 3 end.", "{1,2}", "1", "0: 1; 2"}, {"in f(A) -> case A of {A, B} when B > A -> 1; {B, _} when B > 1 -> 2; _ -> 3 end.", "{2,2}", "1", "1: 1; 2"}, {"in f(A) -> case A of {A, B} when B > A -> 1; {B, _} when B > 1 -> 2; _ -> 3 end.", "{1,0}", "1", "2: 1"},
		{"in f() -> try 1 catch exit:X when X > 1 -> 1; X -> 2; _:X -> 3 end.", "2", "", "0: 2"}, {"in f() -> try 1 catch exit:X when X > 1 -> 1; X -> 2; _:X -> 3 end.", "1", "", "1: 1"}, {"in f() -> receive {a, X} when X > 1 -> X after 10 -> no end.", "{a,1}", "", "none"}, {"in f() -> receive {a, X} when X > 1 -> X after 10 -> no end.", "{a,2}", "", "0: 2"},
	}.hold(t)
}

// P14.5: each clause begins with env, whatever clauses ahead of it would have bound.
func TestChooseAfresh(t *testing.T) {
	choices{
		{"f({X, 1}) -> 1; f({Y, Z}) -> 2.", "{1,2}", "", "1: 1; 2"}, {"f({X, Y, 1}) -> 1; f({X, _, _}) -> 2.", "{1,2,3}", "", "1: 1"}, {"f({X, Y, 1}) -> 1; f({_, _, _}) -> 2.", "{1,2,3}", "", "1: "}, {"f({X, Y, 1}) -> 1; f({_, _, _}) -> 2.", "{1,2,3}", "8", "1: 8"}, {"f({X, Y, 1}) -> 1; f({_, _, _}) -> 2.", "{1,2,3}", "8; -; 9", "1: 8; -; 9"},
		{"f(X, Y) when Y > 5 -> 1; f(_, 2) -> 2.", "1; 2", "", "1: "},
		{"in f(A) -> case A of {B, A} -> 1; {1, B} -> 2 end.", "{1,2}", "7", "1: 7; 2"}, {"in f(A) -> case A of {B, C, A} -> 1; {1, B, _} -> 3 end.", "{1,2,3}", "7; 8", "1: 7; 2"}, {"in f(A) -> case A of {A, B} when B > 3 -> 1; {B, _} -> 2 end.", "{7,2}", "7", "1: 7; 7"}, {"in f(A) -> case A of {B, 9} -> B; {1, C} when C > 1 -> C end.", "{1,2}", "7; -; -; 4", "1: 7; -; 2; 4"},
	}.hold(t)
}

// P14.5: unset slots, in patterns and guards, of clauses ahead of and behind the one that is chosen.
func TestChooseUnset(t *testing.T) {
	choices{
		{"in f(A) -> case 1 of A -> 1; _ -> 2 end.", "1", "", "slot 0"}, {"in f(A) -> case 1 of _ -> 1; A -> 2 end.", "1", "", "0: "}, {"in f(A) -> case 1 of 2 -> 1; A -> 2 end.", "1", "", "slot 0"}, {"in f(A) -> case 1 of {1, A} -> 1; _ -> 2 end.", "{2,1}", "", "1: "}, {"in f(A) -> case 1 of {1, A} -> 1; _ -> 2 end.", "{1,1}", "", "slot 0"},
		{"in f(A) -> case 1 of _ when A -> 1; _ -> 2 end.", "1", "", "slot 0"}, {"in f(A) -> case 1 of _ -> 1; _ when A -> 2 end.", "1", "", "0: "}, {"in f(A) -> case 1 of 2 when A -> 1; _ -> 2 end.", "1", "", "1: "}, {"in f(A) -> case 1 of _ when false, A; true -> 1; _ when A -> 2 end.", "1", "", "0: "}, {"in f(A) -> case 1 of _ when false; A -> 1; _ -> 2 end.", "1", "", "slot 0"}, {"in f(A) -> case 1 of _ when true; A -> 1; _ -> 2 end.", "1", "", "0: "},
		{"in f(A, B) -> case 1 of {C, B} when A -> 1; _ -> 2 end.", "{1,2}", "-; 2", "slot 0"}, {"in f(A, B) -> case 1 of {C, B} when A -> 1; _ -> 2 end.", "{1,2}", "-; 3", "1: -; 3"}, {"in f(A, B) -> case 1 of {C, B} when A -> 1; _ -> 2 end.", "{1,2}", "", "slot 1"}, {"in f(A, B) -> case 1 of {C, B} when A -> 1; _ -> 2 end.", "1", "", "1: "}, {"in f(A) -> case 1 of A when true -> 1 end.", "1; 2", "", "none"}, {"in f(A) -> case 1 of A when true -> 1 end.", "", "", "none"},
		{"in f(A) -> case 1 of A -> 1; _ -> 2 end.", "1", "2", "1: 2"}, {"in f(A) -> case 1 of A -> 1; _ -> 2 end.", "1", "1; 5", "0: 1; 5"},
	}.hold(t)
}

// P14.5: a guard reads what its clause's patterns have bound, not what env had there.
func TestChooseGuardBehind(t *testing.T) {
	choices{
		{"f(X) when X == 1 -> 1; f(_) -> 2.", "1", "2", "0: 1"}, {"f(X) when X == 1 -> 1; f(_) -> 2.", "2", "1", "1: 1"}, {"f(X, Y) when Y > X -> 1.", "1; 2", "5; 5", "0: 1; 2"}, {"f(X, Y) when Y > X -> 1.", "2; 1", "1; 2", "none"}, {"in f(A) -> case 1 of {B} when A > B -> 1 end.", "{1}", "2; 3", "0: 2; 1"}, {"in f(A) -> case 1 of {B} when A > B -> 1 end.", "{3}", "2; 1", "none"},
	}.hold(t)
}
