package link_test

import (
	"slices"
	"strings"
	"testing"

	"heddle/api"
	"heddle/sample"
	"heddle/term"
)

func scribble(terms []api.Term) { sample.Scribble(api.Term{Args: terms}) }

// effectTerms are the places of all terms of an effect.
func effectTerms(e *api.Effect) []*api.Term {
	return []*api.Term{&e.To, &e.From, &e.Ref, &e.What, &e.Reason, &e.Sig.From, &e.Sig.To, &e.Sig.Ref, &e.Sig.Reason}
}

// apart writes over all terms of an answer, one by one: none of them shares its memory with another one.
func apart(t testing.TB, effects []api.Effect) {
	t.Helper()
	var all []*api.Term
	for i := range effects {
		all = append(all, effectTerms(&effects[i])...)
	}
	var were []api.Term
	for _, x := range all {
		were = append(were, term.Copy(*x))
	}
	for i, x := range all {
		if !sample.Same(*x, were[i]) {
			t.Fatalf("terms of one answer share memory: %s was %s", show(*x), show(were[i]))
		}
		scribble([]api.Term{*x})
	}
	for i := range effects {
		effects[i] = api.Effect{}
	}
}

// deep is a term with lists of parts and of numbers at every depth.
func deep() api.Term {
	return tuple(val("a1"), list(val("a#1"), tuple(num(2), tuple(val("c3"))), null()))
}

// Rule 4: the reasons of one End, and of one Take, are new memory each.
func TestReasonsApart(t *testing.T) {
	x := open(t, "a1", "a2", "a3")
	play(t, x, `
		link a1 a2 ->
		link a1 a3 ->
		link a1 b7 -> b: link a1 b7
		monitor a2 a#1 a1 ->
		monitor a3 a#1 x@a a1 ->
		take b monitor b7 a1 b#1 ->
		take b monitor b7 'x b#2 as a1 ->
		monitor a1 a#1 b7 -> b: monitor a1 b7 a#1
		link a2 b7 -> b: link a2 b7
	`)
	reason := sample.Roomy([]api.Term{deep()})
	effects, err := x.End(val("a1"), reason[0])
	done(t, "End", err)
	if !sample.Untouched(reason, []api.Term{deep()}) {
		t.Fatal("End changes the reason")
	}
	scribble(reason)
	told := 0
	for _, e := range effects {
		if sample.Same(e.Reason, deep()) || sample.Same(e.Sig.Reason, deep()) {
			told++
		}
	}
	if told != 7 {
		t.Errorf("%d effects tell the reason: %s", told, showEffects(effects))
	}
	apart(t, effects)

	given := sample.Roomy([]api.Term{val("b7"), val("a2"), deep()})
	effects, err = x.Take("b@h", api.Sig{Kind: api.GExit, From: given[0], To: given[1], Reason: given[2]}, api.Term{})
	if err != nil || !sample.Untouched(given, []api.Term{val("b7"), val("a2"), deep()}) {
		t.Fatal("Take changes the signal")
	}
	scribble(given)
	if len(effects) != 1 || !sameEffect(effects[0], api.Effect{Kind: api.FExit, To: val("a2"), From: val("b7"), Reason: deep()}) {
		t.Error(showEffects(effects))
	}
	apart(t, effects)
}

// Rule 4: what Links, Monitors and Watchers tell is new memory, of each element and of each answer.
func TestListsApart(t *testing.T) {
	x := open(t, "a1", "a2")
	play(t, x, `
		link a1 a2 ->
		link a1 b7 -> b: link a1 b7
		monitor a1 a#1 a1 ->
		monitor a1 a#2 b7 -> b: monitor a1 b7 a#2
		monitor a2 a#1 a1 ->
	`)
	before := look(x)
	for _, ask := range []func(api.Term) []api.Term{x.Links, x.Monitors, x.Watchers} {
		one, two := ask(val("a1")), ask(val("a1"))
		want := showAll(two)
		for i := range one {
			rest := showAll(one[i+1:])
			scribble(one[i : i+1 : i+1])
			if showAll(one[i+1:]) != rest {
				t.Error("elements of one answer share memory")
			}
		}
		_ = append(one[:1], word("grown"))
		if showAll(two) != want || look(x) != before {
			t.Error("an answer shares memory")
		}
	}
	p := sample.Roomy([]api.Term{val("a1")})
	if !x.Alive(p[0]) || len(x.Links(p[0])) != 2 || len(x.Monitors(p[0])) != 2 || len(x.Watchers(p[0])) != 2 || !sample.Untouched(p, []api.Term{val("a1")}) {
		t.Error("to ask changes what is handed in")
	}
}

// Rule 4: nothing of what is handed in is kept: who writes over it changes nothing in the table; nor does who writes over what was told.
func TestKeepsNothing(t *testing.T) {
	calls := []string{
		"born a1", "born a2", "born a3", "link a1 a2", "link a1 b7", "link a1 b8", "unlink a1 b8", "link a9 a1", "monitor a1 a#1 b7", "monitor a1 a#2 x@b b7", "monitor a1 a#3 x@a a2", "monitor a1 a#4 a3", "monitor a2 a#1 a1",
		"take b link b9 a1", "take b monitor b7 a1 b#1", "take b monitor b7 'x b#2 as a1", "take b monitor b7 'x b#3", "take b unlink 3 b9 a1", "take b ack 1 b8 a1", "demonitor a1 a#4", "take b exit b7 a1 {a,[<b@h.1.7.0>]}", "take b ended b7 a1 a#1 {a,[<b@h.1.7.0>]}",
		"link a1 b8", "take c link c1 a1", "down c", "link a1 a7", "take b link b7 a7", "end a3 {a,[<b@h.1.7.0>]}",
	}
	clean, dirty := open(t), open(t)
	for _, text := range calls {
		s := makeStep(strings.Fields(text))
		given, terms := s.roomy()
		want, wantErr := s.perform(clean)
		got, err := given.perform(dirty)
		if (err == nil) != (wantErr == nil) || !slices.EqualFunc(got, want, sameEffect) {
			t.Fatalf("%s: %s, %v, want %s, %v", text, showEffects(got), err, showEffects(want), wantErr)
		}
		scribble(terms)
		apart(t, got)
		if look(dirty) != look(clean) {
			t.Fatalf("%s: %s, want %s", text, look(dirty), look(clean))
		}
	}
	for _, p := range []string{"a2", "a1"} {
		want, _ := clean.End(val(p), word("x"))
		got, err := dirty.End(val(p), word("x"))
		if err != nil || len(got) == 0 || !slices.EqualFunc(got, want, sameEffect) {
			t.Fatalf("End(%s): %s, %v, want %s", p, showEffects(got), err, showEffects(want))
		}
	}
}
