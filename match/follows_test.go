package match_test

import (
	"fmt"
	"math/rand"
	"slices"
	"testing"

	"heddle/api"
	"heddle/match"
	"heddle/parse"
	"heddle/sample"
	"heddle/term"
)

// agree holds what all calls of a program answer against the model, of every node, with terms by chance; and P14.6 and P14.7 of what they answer. It tells how often something fitted, had a value, held and was chosen.
func agree(t *testing.T, p program, r *rand.Rand) (count [4]int) {
	t.Helper()
	m, some := modelOf(p), maker{r}
	for i := range p.l {
		env := some.env()
		if m.isPattern(i) {
			x := some.instance(p, i, map[string]api.Term{})
			s := slotsOf(env)
			want := m.fit([]held{{i, x}}, s)
			if want == "yes" {
				want = s.show(len(env))
				count[0]++
			}
			heldAgainst(t, p, i, fmt.Sprintf("%+v", p.l[i]), x, env, want)
		}
		if m.isTest(i) {
			value, want := m.value(i, slotsOf(env), who())
			if want == "has" {
				want = show(value)
				count[1]++
			}
			comesTo(t, p, i, fmt.Sprintf("%+v", p.l[i]), env, want)
		}
		if p.l[i].Kind == api.NGuard {
			holds, err := p.Guard(i, env, who())
			got := told(err, map[bool]string{true: "yes", false: "no"}[holds])
			if want := m.guard(i, slotsOf(env), who()); got != want {
				t.Errorf("guard %d, env %s: %s; want %s", i, show(env...), got, want)
			}
			if holds {
				count[2]++
			}
		}
	}
	for _, clauses := range [][]int{p.clauses(), p.inner(), p.nodes(api.NClause)} {
		if len(clauses) == 0 {
			continue
		}
		args, env := some.args(p, clauses[r.Intn(len(clauses))]), some.env()
		chosen(t, p, "clauses by chance", clauses, args, env, m.choose(clauses, args, env, who()))
		if first(t, p, clauses, args, env) {
			count[3]++
		}
	}
	return count
}

// args are terms that a clause's patterns may fit.
func (m maker) args(p program, clause int) []api.Term {
	if m.r.Intn(10) == 0 {
		return m.terms(3, 2)
	}
	names, args := map[string]api.Term{}, []api.Term{}
	for _, i := range patternsOf(p, clause) {
		args = append(args, m.instance(p, i, names))
	}
	return args
}

func patternsOf(p program, clause int) []int {
	kids := p.l[clause].Kids
	if n := p.l[kids[0]]; n.Kind == api.NArgs {
		return n.Kids
	}
	return kids[:1]
}

// first holds P14.6 and P14.7 of what Choose answers; and whether there is a clause.
func first(t *testing.T, p program, clauses []int, args, env []api.Term) bool {
	t.Helper()
	k, behind, err := p.Choose(clauses, args, env, who())
	if err != nil {
		return false
	}
	for place, clause := range clauses {
		if place == k {
			break
		}
		if _, fits := alone(t, p, clause, args, env); fits {
			t.Errorf("clause %d fits %s in %s, but %d was chosen", place, show(args...), show(env...), k)
		}
	}
	if k < 0 {
		return false
	}
	own, fits := alone(t, p, clauses[k], args, env)
	if !fits || !same(own, behind) {
		t.Errorf("clause %d was chosen of %s in %s, and has %s; but it fits: %v, and has %s", k, show(args...), show(env...), show(behind...), fits, show(own...))
	}
	seen := modelOf(p).seen
	for place, i := range patternsOf(p, clauses[k]) {
		if !isInstance(p, seen, i, args[place], behind) {
			t.Errorf("%s is no instance of pattern %d in %s", show(args[place]), place, show(behind...))
		}
	}
	return true
}

// alone tells, by Match and Guard, whether a clause fits, and the environment behind its patterns.
func alone(t *testing.T, p program, clause int, args, env []api.Term) ([]api.Term, bool) {
	t.Helper()
	patterns := patternsOf(p, clause)
	if len(patterns) != len(args) {
		return nil, false
	}
	for place, i := range patterns {
		behind, fits, err := p.Match(i, args[place], env)
		if err != nil || !fits {
			return nil, false
		}
		env = behind
	}
	for _, i := range p.l[clause].Kids {
		if p.l[i].Kind != api.NGuard {
			continue
		}
		if holds, err := p.Guard(i, env, who()); !holds || err != nil {
			return nil, false
		}
	}
	return env, true
}

// isInstance holds P14.6: with each variable's slot in its place, is the pattern the term? (_ stands for whatever is there.)
func isInstance(p program, seen []api.Seen, i int, t api.Term, env []api.Term) bool {
	n := p.l[i]
	switch n.Kind {
	case api.EVar:
		return n.Text == "_" || isSame(env[seen[i].Slot], t)
	case api.EMatch:
		return isInstance(p, seen, n.Kids[0], t, env) && isInstance(p, seen, n.Kids[1], t, env)
	case api.ETuple:
		if t.Kind != api.KTuple || len(t.Args) != len(n.Kids) {
			return false
		}
		for k, kid := range n.Kids {
			if !isInstance(p, seen, kid, t.Args[k], env) {
				return false
			}
		}
		return true
	case api.EList:
		last := len(n.Kids) - 1
		for _, kid := range n.Kids[:last] {
			head, rest, there := term.Split(t)
			if !there || !isInstance(p, seen, kid, head, env) {
				return false
			}
			t = rest
		}
		return isInstance(p, seen, n.Kids[last], t, env)
	}
	return isSame(model{l: p.l}.literal(i), t)
}

// P14.2 to P14.7: programs by chance, against the model.
func TestByChance(t *testing.T) {
	r := rand.New(rand.NewSource(14))
	var all [4]int
	for range 3000 {
		forms := maker{r}.forms()
		for k, n := range agree(t, made(t, forms), r) {
			all[k] += n
		}
		if t.Failed() {
			t.Fatal(forms)
		}
	}
	for k, n := range all {
		if n < 200 {
			t.Errorf("only %d of the calls %d came to something", n, k)
		}
	}
}

// P14.6: an instance, of patterns and terms that are told.
func TestInstance(t *testing.T) {
	for _, c := range []struct{ patterns, args string }{
		{"X", "{1,[2|3]}"}, {"{X, [Y | Z]}, X", "{1,[2,3]}; 1"}, {"{X, X, _}", "{[1],[1],2}"}, {"[X, Y | Z] = W", "[1,2,3|4]"}, {"[X | X]", "[[1],1]"}, {"{-1, +2, a, [], {}}, _", "{-1,2,a,[],{}}; x"}, {"[1 | [2 | [X]]]", "[1,2,3]"}, {"{A = {B, C}, B, [C | A]}", "{{1,2},1,[2|{1,2}]}"}, {"_, _", "1; 2"},
	} {
		p := made(t, "f("+c.patterns+") -> ok.")
		for _, env := range []string{"", "7; 7; 7; 7; 7; 7"} {
			if !first(t, p, p.clauses(), row(t, c.args), row(t, env)) {
				t.Errorf("%s does not fit %s", c.patterns, c.args)
			}
		}
	}
}

// P14.7: each of some terms chooses the first clause that is for it, whatever the order of the clauses.
func TestFirst(t *testing.T) {
	p := made(t, "f(1) -> a; f(X) when X > 1, X < 10 -> b; f({X, X}) -> c; f({X, _}) -> d; f(X) when is_list(X) -> e; f([X | _]) when X -> g; f(X) when hd(X); X == a -> h; f(_) -> i.")
	r := rand.New(rand.NewSource(7))
	for range 200 {
		clauses := slices.Clone(p.clauses())
		r.Shuffle(len(clauses), func(i, k int) { clauses[i], clauses[k] = clauses[k], clauses[i] })
		for _, s := range []string{"1", "2", "10", "a", "{1,1}", "{1,2}", "[]", "[true]", "[true|1]", "{}", "<n@h.1.5.0>"} {
			if !first(t, p, clauses, row(t, s), nil) {
				t.Fatalf("no clause is for %s", s)
			}
		}
	}
}

// Rule 5: what a call answers hangs on its arguments alone.
func TestAgain(t *testing.T) {
	p := made(t, "f({X, [Y | Z]}, X) when Y > 1 -> ok; f(X, Y) -> ok.")
	for range 3 {
		chosen(t, p, "again", p.clauses(), row(t, "{1,[2]}; 1"), nil, "0: 1; 2; []")
		chosen(t, p, "again", p.clauses(), row(t, "{1,[1]}; 1"), nil, "1: {1,[1]}; 1")
		heldAgainst(t, p, p.patterns()[0], "again", read(t, "{1,[2]}"), row(t, "-; -; -; 4"), "1; 2; []; 4")
		heldAgainst(t, p, p.patterns()[1], "again", read(t, "1"), nil, "slot 0")
	}
}

// Of all texts of programs all calls answer what the model does, of all nodes.
func FuzzCalls(f *testing.F) {
	r := rand.New(rand.NewSource(1))
	for range 20 {
		f.Add("-module(m). "+maker{r}.forms(), r.Int63())
	}
	f.Add("-module(m). "+allKinds, int64(1))
	f.Fuzz(func(t *testing.T, s string, seed int64) {
		l, root, err := parse.Text(s)
		if err != nil || len(l) > 500 {
			return
		}
		r, err := match.New(l, root)
		if err != nil {
			return
		}
		p := program{r, l, root}
		agree(t, p, rand.New(rand.NewSource(seed)))
		m := modelOf(p)
		for i := -1; i <= len(l); i++ {
			if _, _, err := p.Match(i, num(1), nil); !m.isPattern(i) && !sample.IsFault(err, fault(0, wrong(i, len(l)))) {
				t.Errorf("Match(%d): %v", i, err)
			}
			if _, _, err := p.Test(i, nil, who()); !m.isTest(i) && !sample.IsFault(err, fault(0, wrong(i, len(l)))) {
				t.Errorf("Test(%d): %v", i, err)
			}
		}
	})
}

// wrong is what is told of a node that is none of the form that is asked for.
func wrong(i, n int) api.Errno {
	if i < 0 || i >= n {
		return api.ErrRange
	}
	return api.ErrRule
}
