package link_test

import (
	"math"
	"slices"
	"strings"
	"testing"

	"heddle/api"
)

// P19.4: of this node: who lives is watched; of all others one DOWN at once, and nothing is kept.
func TestMonitorHere(t *testing.T) {
	play(t, open(t, "a1", "a2", "a3"), `
		monitor a1 a#1 a2 ->
		monitors a1 -> a#1
		watchers a1 ->
		watchers a2 -> a#1
		monitors a2 ->
		links a1 ->
		halves a -> 0
		monitor a1 a#2 a2 ->
		monitors a1 -> a#1 a#2
		watchers a2 -> a#1 a#2
		end a3 boom ->
		monitor a1 a#3 a3 -> down a1 a#3 a3 noproc
		monitor a1 a#3 a9 -> down a1 a#3 a9 noproc
		monitor a1 a#3 a2/2 -> down a1 a#3 a2/2 noproc
		monitor a1 a#3 a2.1 -> down a1 a#3 a2.1 noproc
		monitors a1 -> a#1 a#2
		born a9 ->
		watchers a9 ->
		monitor a1 a#3 a9 ->
		watchers a9 -> a#3
		end a2 boom -> down a1 a#1 a2 boom; down a1 a#2 a2 boom
		monitors a1 -> a#3
	`)
}

// P19.4: a name of this node: q is who has it, as far as one has.
func TestMonitorNameHere(t *testing.T) {
	play(t, open(t, "a1", "a2", "a3"), `
		monitor a1 a#1 x@a a2 ->
		monitor a3 a#1 a2 ->
		monitors a1 -> a#1
		watchers a2 -> a#1 a#1
		monitor a1 a#2 x@a - -> down a1 a#2 x@a noproc
		monitor a1 a#2 x@a a9 -> down a1 a#2 x@a noproc
		monitor a1 a#2 x@a a2/2 -> down a1 a#2 x@a noproc
		monitor a1 a#2 x@a b7 -> down a1 a#2 x@a noproc
		monitors a1 -> a#1
		halves a -> 0
		halves b -> 0
		end a2 boom -> down a1 a#1 x@a boom; down a3 a#1 a2 boom
		monitor a1 a#1 x@a a2 -> down a1 a#1 x@a noproc
	`)
}

// P19.4: of another node nobody knows who lives, and who has a name there: q plays no part then.
func TestMonitorElsewhere(t *testing.T) {
	play(t, open(t, "a1", "a2"), `
		monitor a1 a#1 b7 -> b: monitor a1 b7 a#1
		monitor a1 a#2 b7 -> b: monitor a1 b7 a#2
		monitor a1 a#3 b7/2 -> b: monitor a1 b7/2 a#3
		monitor a1 a#4 x@b - -> b: monitor a1 'x a#4
		monitor a1 a#5 x@b b7 -> b: monitor a1 'x a#5
		monitor a1 a#6 x@b a2 -> b: monitor a1 'x a#6
		monitor a1 a#7 x@b a9 -> b: monitor a1 'x a#7
		monitor a1 a#8 x@b c7 -> b: monitor a1 'x a#8
		monitor a2 a#1 c7 -> c: monitor a2 c7 a#1
		monitors a1 -> a#1 a#2 a#3 a#4 a#5 a#6 a#7 a#8
		monitors a2 -> a#1
		watchers a2 ->
		halves a -> 0
		halves b -> 8
		halves c -> 1
		demonitor a1 a#6 -> b: demonitor a1 'x a#6
		demonitor a1 a#3 -> b: demonitor a1 b7/2 a#3
		halves b -> 6
		end a2 boom -> c: demonitor a2 c7 a#1
	`)
}

// P19.4: oneself, by one's pid and by one's name.
func TestMonitorOneself(t *testing.T) {
	x := open(t, "a1", "a2")
	play(t, x, `
		monitor a1 a#1 a1 ->
		monitor a1 a#2 x@a a1 ->
		monitors a1 -> a#1 a#2
		watchers a1 -> a#1 a#2
		demonitor a1 a#1 ->
		watchers a1 -> a#2
		monitor a1 a#1 a1 ->
		monitor a2 a#1 a1 ->
		end a1 boom -> down a2 a#1 a1 boom
		monitors a2 ->
	`)
}

// P19.4: a ref that this process uses is refused, whomever it watches; one that another process uses is free, and so is one whose monitor has ended.
func TestMonitorTwice(t *testing.T) {
	play(t, open(t, "a1", "a2", "a3"), `
		monitor a1 a#1 a2 ->
		monitor a1 a#1 a2 -> !6
		monitor a1 a#1 a3 -> !6
		monitor a1 a#1 a9 -> !6
		monitor a1 a#1 b7 -> !6
		monitor a1 a#1 x@a a2 -> !6
		monitor a1 a#1 x@a - -> !6
		monitor a1 a#1 x@b - -> !6
		monitor a2 a#1 a1 ->
		monitor a3 a#1 a2 ->
		monitor a1 b#1 b7 -> b: monitor a1 b7 b#1
		monitor a1 b#1 a2 -> !6
		watchers a2 -> a#1 a#1
		demonitor a1 a#1 ->
		monitor a1 a#1 b7 -> b: monitor a1 b7 a#1
		monitor a1 a#1 a2 -> !6
		take b ended b7 a1 a#1 boom -> down a1 a#1 b7 boom
		monitor a1 a#1 a9 -> down a1 a#1 a9 noproc
		monitor a1 a#1 a2 ->
		end a2 boom -> down a1 a#1 a2 boom; down a3 a#1 a2 boom
		monitor a1 a#1 a3 ->
		monitor a3 a#1 a1 ->
		monitor a2 a#1 a1 -> !380
	`)
}

// P19.4: refs are the same just if all their fields are.
func TestMonitorRefs(t *testing.T) {
	x := open(t, "a1", "a2")
	refs := []api.Term{ref("A@h", 9, 9, 9, 9), ref("a@h", 0, 9, 0, 0), ref("a@h", 1, 0, 0, 0), ref("a@h", 1, 0, 0, math.MaxUint32), ref("a@h", 1, 0, 1, 0), ref("a@h", 1, 0, math.MaxUint32, 0), ref("a@h", 1, 1, 0, 0),
		ref("a@h", 1, 2, 0, 0), ref("a@h", 1, 10, 0, 0), ref("a@h", 1, 256, 0, 0), ref("a@h", 2, 1, 0, 0), ref("a@h", math.MaxUint32, 0, 0, 0), ref("aa@h", 0, 0, 0, 0), ref("b@h", 0, 0, 0, 0)}
	for i := range refs {
		r := refs[(i*5)%len(refs)]
		effects, err := x.Monitor(val("a1"), r, val("a2"), "", "")
		if len(effects) > 0 || err != nil {
			t.Fatalf("Monitor: %s, %v", showEffects(effects), err)
		}
	}
	for _, got := range [][]api.Term{x.Monitors(val("a1")), x.Watchers(val("a2"))} {
		if showAll(got) != showAll(refs) {
			t.Errorf("%s, want %s", showAll(got), showAll(refs))
		}
	}
	for i, r := range refs {
		effects, err := x.Demonitor(val("a1"), r)
		if len(effects) > 0 || err != nil || showAll(x.Monitors(val("a1"))) != showAll(refs[i+1:]) || showAll(x.Watchers(val("a2"))) != showAll(refs[i+1:]) {
			t.Fatalf("Demonitor of %s: %s, %v", show(r), showEffects(effects), err)
		}
	}
}

// P19.4: any atom's text is a name; a pid's node plays no part.
func TestMonitorNames(t *testing.T) {
	x := open(t, "a1", "a2")
	for i, name := range []string{"x", "X", " ", "\x00", "'", "é", "a@h", "<a@h.1.2.0>", strings.Repeat("x", 255), "noproc"} {
		r := ref("a@h", 1, uint32(i), 0, 0)
		effects, err := x.Monitor(val("a1"), r, api.Term{}, name, "b@h")
		want := api.Effect{Kind: api.FSignal, Node: "b@h", Sig: api.Sig{Kind: api.GMonitor, From: val("a1"), Name: name, Ref: r}}
		if err != nil || len(effects) != 1 || !sameEffect(effects[0], want) {
			t.Fatalf("Monitor(%q): %s, %v", name, showEffects(effects), err)
		}
		effects, err = x.Monitor(val("a1"), val("b#9"), api.Term{}, name, "a@h")
		want = api.Effect{Kind: api.FDown, To: val("a1"), Ref: val("b#9"), What: tuple(word(name), word("a@h")), Reason: word("noproc")}
		if err != nil || len(effects) != 1 || !sameEffect(effects[0], want) {
			t.Fatalf("Monitor(%q): %s, %v", name, showEffects(effects), err)
		}
	}
	for i, node := range append(noNodes, "b@h", "c@h", "a@h") {
		effects, err := x.Monitor(val("a1"), ref("c@h", 1, uint32(i), 0, 0), val("a2"), "", node)
		if len(effects) > 0 || err != nil {
			t.Fatalf("Monitor of a pid with the node %.20q: %s, %v", node, showEffects(effects), err)
		}
	}
}

// P19.4: what is not of the kind that is said.
func TestMonitorOfNone(t *testing.T) {
	x := open(t, "a1", "a2")
	play(t, x, "monitor a1 a#1 a2 ->\n monitor a2 a#1 b7 -> b: monitor a2 b7 a#1")
	before := look(x)
	try := func(what string, r, q api.Term, name, node string) {
		t.Helper()
		effects, err := x.Monitor(val("a1"), r, q, name, node)
		refused(t, what, effects, err, api.ErrArg)
	}
	for _, r := range slices.Concat([]api.Term{{}, val("a1")}, noTerms(), otherTerms()) {
		try("no ref", r, val("a2"), "", "")
		try("no ref", r, val("b7"), "", "")
		try("no ref", r, val("a2"), "x", "a@h")
		try("no ref", r, api.Term{}, "x", "b@h")
		effects, err := x.Demonitor(val("a1"), r)
		refused(t, "Demonitor", effects, err, api.ErrArg)
	}
	for _, q := range slices.Concat([]api.Term{{}, val("a#1")}, noTerms(), otherTerms()) {
		try("no pid", val("a#9"), q, "", "")
		try("no pid", val("a#1"), q, "", "b@h")
		if q.Kind != 0 {
			try("a name, and no pid", val("a#9"), q, "x", "a@h")
			try("a name, and no pid", val("a#9"), q, "x", "b@h")
		}
	}
	for _, q := range []api.Term{{}, val("a2"), val("b7")} {
		for _, name := range noAtoms {
			try("no atom", val("a#9"), q, name, "a@h")
			try("no atom", val("a#9"), q, name, "b@h")
		}
		for _, node := range noNodes {
			try("no node", val("a#9"), q, "x", node)
		}
	}
	if after := look(x); after != before {
		t.Errorf("%s was %s", after, before)
	}
}

// P19.4: of what has no Kind nothing else plays a part.
func TestMonitorNoKind(t *testing.T) {
	for _, q := range []api.Term{{Text: "a@h", Creation: 1, Nums: []uint32{2, 0}}, {Int: 1}, {Args: []api.Term{{}}}} {
		x := open(t, "a1", "a2")
		effects, err := x.Monitor(val("a1"), val("a#1"), q, "x", "a@h")
		if err != nil || showEffects(effects) != "down a1 a#1 x@a noproc" {
			t.Errorf("%+v: %s, %v", q, showEffects(effects), err)
		}
		effects, err = x.Monitor(val("a1"), val("a#1"), q, "x", "b@h")
		if err != nil || showEffects(effects) != "b: monitor a1 'x a#1" {
			t.Errorf("%+v: %s, %v", q, showEffects(effects), err)
		}
	}
}

// P19.5: of this node nobody is told; of another one its node is.
func TestDemonitor(t *testing.T) {
	play(t, open(t, "a1", "a2", "a3"), `
		demonitor a1 a#1 ->
		monitor a1 a#1 a2 ->
		monitor a1 a#2 x@a a2 ->
		monitor a1 a#3 b7 -> b: monitor a1 b7 a#3
		monitor a1 a#4 x@b - -> b: monitor a1 'x a#4
		monitor a1 a#5 x@b a2 -> b: monitor a1 'x a#5
		monitor a3 a#1 a2 ->
		monitor a3 a#3 b7 -> b: monitor a3 b7 a#3
		demonitor a2 a#1 ->
		demonitor a1 a#9 ->
		demonitor a1 b#1 ->
		watchers a2 -> a#1 a#1 a#2
		demonitor a1 a#1 ->
		watchers a2 -> a#1 a#2
		monitors a3 -> a#1 a#3
		demonitor a1 a#2 ->
		demonitor a1 a#2 ->
		watchers a2 -> a#1
		demonitor a1 a#3 -> b: demonitor a1 b7 a#3
		demonitor a1 a#3 ->
		demonitor a1 a#4 -> b: demonitor a1 'x a#4
		demonitor a1 a#5 -> b: demonitor a1 'x a#5
		monitors a1 ->
		halves b -> 1
		end a2 boom -> down a3 a#1 a2 boom
		take b ended b7 a1 a#3 boom ->
		take b ended 'x a1 a#4 boom ->
		demonitor a3 a#1 ->
	`)
}
