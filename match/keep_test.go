package match_test

import (
	"slices"
	"testing"

	"heddle/api"
	"heddle/sample"
)

// scribble writes over all memory that terms reach.
func scribble(terms []api.Term) { sample.Scribble(api.Term{Args: terms}) }

// given is what is handed in to all calls, each piece in memory of its own.
type given struct{ term, args, env, self []api.Term }

// handIn is great terms: X and Y, slots 0 and 1, share none.
func handIn(t *testing.T) given {
	t.Helper()
	return given{
		term: sample.Roomy(row(t, "{{1,[<n@h.1.5.0>|a]},[#Ref<n@h.1.1.2.3>,{2},3]}")), args: sample.Roomy(row(t, "{{1},[{2},{3}]}; {[{2}],{1}}")),
		env: sample.Roomy(row(t, "{{1},[2|3]}; [<m@h.1.5.0>,{4}]; -; {{5}}; [6]; {7}; {8}")), self: sample.Roomy([]api.Term{who().Self}),
	}
}

func (g given) who() api.Who { return api.Who{Self: g.self[0], Node: "n@h"} }

func (g given) all() [][]api.Term { return [][]api.Term{g.term, g.args, g.env, g.self} }

// shared is a program whose patterns and tests tell the same terms several times.
func shared(t *testing.T) program {
	t.Helper()
	return made(t, "f({X, Y} = Z, {W, V}) when {X, X} == {X, X} -> {Y, [X, self() | Y], {X}, self()}, X, [X | Y], self().")
}

// answers are those of all calls, each a row of terms.
func answers(t *testing.T, p program, g given, clauses []int) [][]api.Term {
	t.Helper()
	all := [][]api.Term{}
	env, ok, err := p.Match(p.patterns()[0], g.term[0], g.env)
	if !ok || err != nil {
		t.Fatal(ok, err)
	}
	all = append(all, env)
	for _, i := range p.body() {
		x, ok, err := p.Test(i, g.env, g.who())
		if !ok || err != nil {
			t.Fatal(ok, err)
		}
		all = append(all, []api.Term{x})
	}
	if ok, err := p.Guard(p.nodes(api.NGuard)[0], g.env, g.who()); !ok || err != nil {
		t.Fatal(ok, err)
	}
	k, env, err := p.Choose(clauses, g.args, g.env, g.who())
	if k != 0 || err != nil {
		t.Fatal(k, err)
	}
	return append(all, env)
}

// wanted are the answers, by their texts.
func wanted() []string {
	return []string{
		"{1,[<n@h.1.5.0>|a]}; [#Ref<n@h.1.1.2.3>,{2},3]; {{1,[<n@h.1.5.0>|a]},[#Ref<n@h.1.1.2.3>,{2},3]}; {{5}}; [6]; {7}; {8}",
		"{[<m@h.1.5.0>,{4}],[{{1},[2|3]},<n@h.1.5.0>,<m@h.1.5.0>,{4}],{{{1},[2|3]}},<n@h.1.5.0>}", "{{1},[2|3]}", "[{{1},[2|3]},<m@h.1.5.0>,{4}]", "<n@h.1.5.0>",
		"{1}; [{2},{3}]; {{1},[{2},{3}]}; [{2}]; {1}; {7}; {8}",
	}
}

// holdAnswers holds answers against their texts.
func holdAnswers(t *testing.T, when string, got [][]api.Term) {
	t.Helper()
	for k, want := range wanted() {
		if show(got[k]...) != want {
			t.Errorf("%s, answer %d: %s; want %s", when, k, show(got[k]...), want)
		}
	}
}

// Rules 4 and 7: what is handed in is not changed; and changed afterwards, it changes no answer, neither one that was told nor a later one.
func TestGivenIsNotKept(t *testing.T) {
	p := shared(t)
	g, clauses := handIn(t), slices.Clone(p.clauses())
	got := answers(t, p, g, clauses)
	holdAnswers(t, "at once", got)
	for k, terms := range g.all() {
		if !sample.Untouched(terms, handIn(t).all()[k]) {
			t.Errorf("what was handed in was changed: %s", show(terms...))
		}
	}
	if !slices.Equal(clauses, p.clauses()) {
		t.Errorf("clauses %v", clauses)
	}
	for _, terms := range g.all() {
		scribble(terms)
	}
	clauses[0] = -1
	holdAnswers(t, "when all was changed", got)
	holdAnswers(t, "again", answers(t, p, handIn(t), p.clauses()))
}

// Rule 4: answers that are changed change nothing that was handed in, no other answer, and no later one.
func TestAnswersAreNew(t *testing.T) {
	p := shared(t)
	g := handIn(t)
	got, others := answers(t, p, g, p.clauses()), answers(t, p, g, p.clauses())
	for _, terms := range got {
		scribble(terms)
	}
	for k, terms := range g.all() {
		if !sample.Untouched(terms, handIn(t).all()[k]) {
			t.Errorf("what was handed in was changed with an answer: %s", show(terms...))
		}
	}
	holdAnswers(t, "when others were changed", others)
	holdAnswers(t, "later", answers(t, p, g, p.clauses()))
}

// Rule 4: no two lists of one answer share memory.
func TestAnswersShareNothing(t *testing.T) {
	p := shared(t)
	for k := range wanted() {
		for slot := range answers(t, p, handIn(t), p.clauses())[k] {
			env := answers(t, p, handIn(t), p.clauses())[k]
			were := slices.Clone(env)
			for i := range were {
				were[i] = sample.Roomy([]api.Term{env[i]})[0]
			}
			apart(t, env[slot])
			env = answers(t, p, handIn(t), p.clauses())[k]
			sample.Scribble(env[slot])
			for i := range env {
				if i != slot && !sample.Same(env[i], were[i]) {
					t.Errorf("answer %d: slot %d was changed with slot %d", k, i, slot)
				}
			}
		}
	}
}

// apart holds that each of a term's Args may be changed without the others.
func apart(t *testing.T, x api.Term) {
	t.Helper()
	var were []api.Term
	for _, arg := range x.Args {
		were = append(were, sample.Roomy([]api.Term{arg})[0])
	}
	for i, arg := range x.Args {
		sample.Scribble(arg)
		for k := i + 1; k < len(x.Args); k++ {
			if !sample.Same(x.Args[k], were[k]) {
				t.Errorf("part %d of %s was changed with part %d", k, show(were...), i)
			}
		}
	}
}
