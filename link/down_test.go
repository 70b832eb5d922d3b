package link_test

import (
	"testing"

	"heddle/api"
	"heddle/sample"
)

// P19.8: all links of all processes ahead of all monitors; of that node alone, whatever its incarnation.
func TestDown(t *testing.T) {
	x := open(t, "a3", "a1", "a2")
	play(t, x, `
		link a3 b9 -> b: link a3 b9
		link a3 b7/2 -> b: link a3 b7/2
		link a3 b8 -> b: link a3 b8
		link a1 b7 -> b: link a1 b7
		link a1 a3 ->
		link a1 c7 -> c: link a1 c7
		take b link b1 a2 ->
		monitor a3 b#1 b7 -> b: monitor a3 b7 b#1
		monitor a3 a#9 x@b - -> b: monitor a3 'x a#9
		monitor a3 a#8 x@c - -> c: monitor a3 'x a#8
		monitor a1 a#9 b7/2 -> b: monitor a1 b7/2 a#9
		monitor a1 a#8 c7 -> c: monitor a1 c7 a#8
		monitor a1 a#7 a2 ->
		monitor a2 a#6 x@a a1 ->
		take b monitor b7 a1 b#1 ->
		take b monitor b7/2 'x b#2 as a2 ->
		take c monitor c7 a2 b#3 ->
		unlink a3 b8 -> b: unlink 1 a3 b8
		unlink a1 c7 -> c: unlink 2 a1 c7
		halves b -> 10
		halves c -> 4
		down d ->
		halves b -> 10
		down b -> exit a1 b7 noconnection; exit a2 b1 noconnection; exit a3 b9 noconnection; exit a3 b7/2 noconnection; down a1 a#9 b7/2 noconnection; down a3 a#9 x@b noconnection; down a3 b#1 b7 noconnection
		halves b -> 0
		halves c -> 4
		links a1 -> a3
		links a2 ->
		links a3 -> a1
		monitors a1 -> a#7 a#8
		monitors a2 -> a#6
		monitors a3 -> a#8
		watchers a1 -> a#6
		watchers a2 -> a#7 b#3
		alive a1 -> true
		down b ->
	`)
	play(t, x, `
		end a2 boom -> down a1 a#7 a2 boom; c: ended a2 c7 b#3 boom
		end a1 boom -> exit a3 a1 boom; c: demonitor a1 c7 a#8
		end a3 boom -> c: demonitor a3 'x a#8
		down c ->
	`)
}

// P19.8, P19.7: what comes late is of nothing that is there.
func TestDownThenLate(t *testing.T) {
	play(t, open(t, "a1"), `
		link a1 b7 -> b: link a1 b7
		link a1 b8 -> b: link a1 b8
		unlink a1 b8 -> b: unlink 1 a1 b8
		monitor a1 a#1 b7 -> b: monitor a1 b7 a#1
		monitor a1 a#2 x@b - -> b: monitor a1 'x a#2
		take b monitor b7 a1 b#1 ->
		down b -> exit a1 b7 noconnection; down a1 a#1 b7 noconnection; down a1 a#2 x@b noconnection
		take b ack 1 b8 a1 ->
		take b exit b7 a1 late ->
		take b exit b8 a1 late ->
		take b ended b7 a1 a#1 late ->
		take b ended 'x a1 a#2 late ->
		take b demonitor b7 a1 b#1 ->
		take b unlink 5 b7 a1 -> b: ack 5 a1 b7
		unlink a1 b7 ->
		demonitor a1 a#1 ->
		halves b -> 0
		end a1 boom ->
	`)
}

// P19.8: an unlink that went with its node stands in the way of nothing.
func TestDownThenAnew(t *testing.T) {
	play(t, open(t, "a1"), `
		link a1 b7 -> b: link a1 b7
		unlink a1 b7 -> b: unlink 1 a1 b7
		down b ->
		take b link b7 a1 ->
		links a1 -> b7
		take b exit b7 a1 boom -> exit a1 b7 boom
		monitor a1 a#1 b7 -> b: monitor a1 b7 a#1
		down b -> down a1 a#1 b7 noconnection
		monitor a1 a#1 b7 -> b: monitor a1 b7 a#1
		take b ended b7 a1 a#1 boom -> down a1 a#1 b7 boom
		link a1 b7 -> b: link a1 b7
		down b -> exit a1 b7 noconnection
		link a1 b7 -> b: link a1 b7
		unlink a1 b7 -> b: unlink 2 a1 b7
	`)
}

// P19.8: other nodes' names alone.
func TestDownOfNone(t *testing.T) {
	x := open(t, "a1", "a2")
	play(t, x, "link a1 a2 ->\n monitor a1 a#1 a2 ->\n link a1 b7 -> b: link a1 b7")
	before := look(x)
	for _, node := range append(noNodes, "a@h") {
		effects, err := x.Down(node)
		refused(t, "Down", effects, err, api.ErrArg)
		if n := x.Halves(node); n != 0 {
			t.Errorf("Halves(%.20q) = %d", node, n)
		}
	}
	if after := look(x); after != before {
		t.Errorf("%s was %s", after, before)
	}
	empty := open(t)
	play(t, empty, "down b ->\n halves b -> 0")
}

// P19.9: what does not live has nothing; of no node's name there is nothing.
func TestAskedOfNobody(t *testing.T) {
	x := open(t, "a1", "a2", "a3")
	play(t, x, `
		link a1 a2 ->
		link a1 b7 -> b: link a1 b7
		monitor a1 a#1 b7 -> b: monitor a1 b7 a#1
		monitor a1 a#2 a2 ->
		monitor a2 a#2 a1 ->
		monitor a3 a#2 a3 ->
		end a3 boom ->
	`)
	nobody := append(append(noTerms(), otherTerms()...), api.Term{}, val("a3"), val("a9"), val("a1/2"), val("a1/0"), val("a1.1"), val("b7"), val("b1"), val("a#1"), pid("A@h", 1, 1, 0))
	for _, p := range nobody {
		if x.Alive(p) || len(x.Links(p)) > 0 || len(x.Monitors(p)) > 0 || len(x.Watchers(p)) > 0 {
			t.Errorf("%s has something", show(p))
		}
	}
	for _, node := range append(noNodes, "a@h", "c@h", "b@hh", "B@h") {
		if n := x.Halves(node); n != 0 {
			t.Errorf("Halves(%.20q) = %d", node, n)
		}
	}
	if !sample.Same(x.Links(val("a1"))[0], val("a2")) || x.Halves("b@h") != 2 {
		t.Error("who lives has")
	}
}
