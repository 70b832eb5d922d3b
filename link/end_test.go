package link_test

import (
	"slices"
	"testing"

	"heddle/api"
	"heddle/sample"
)

// P19.6: links in order, those of this node among those of others; they have the ended one no more.
func TestEndLinks(t *testing.T) {
	play(t, open(t, "a3", "a1", "a2", "a4"), `
		link a3 c7 -> c: link a3 c7
		link a3 a4 ->
		link a3 b9 -> b: link a3 b9
		link a3 b7/2 -> b: link a3 b7/2
		link a1 a3 ->
		link a2 a1 ->
		take b link b1 a3 ->
		end a3 boom -> exit a1 a3 boom; exit a4 a3 boom; b: exit a3 b1 boom; b: exit a3 b9 boom; b: exit a3 b7/2 boom; c: exit a3 c7 boom
		links a3 ->
		links a1 -> a2
		links a4 ->
		halves b -> 0
		halves c -> 0
		alive a3 -> false
		end a3 boom -> !380
		link a1 a3 -> exit a1 a3 noproc
	`)
}

// P19.6: watchers by refs, of one ref by pids, those of this node among those of others.
func TestEndWatchers(t *testing.T) {
	play(t, open(t, "a3", "a1", "a2", "a4", "a5"), `
		monitor a4 a#2 a3 ->
		monitor a4 a#1 x@a a3 ->
		monitor a1 a#2 y@a a3 ->
		monitor a5 b#1 a3 ->
		monitor a3 a#2 a3 ->
		monitor a3 a#3 x@a a3 ->
		monitor a2 a#9 a1 ->
		take b monitor b7 a3 b#1 ->
		take b monitor b1 'z b#1 as a3 ->
		take b monitor b7 'x a#2 as a3 ->
		take b monitor b7 ' a#4 as a3 ->
		take c monitor c1 a3 a#0 ->
		watchers a3 -> a#0 a#1 a#2 a#2 a#2 a#2 a#3 a#4 b#1 b#1 b#1
		halves b -> 4
		end a3 boom -> c: ended a3 c1 a#0 boom; down a4 a#1 x@a boom; down a1 a#2 y@a boom; down a4 a#2 a3 boom; b: ended 'x b7 a#2 boom; b: ended ' b7 a#4 boom; down a5 b#1 a3 boom; b: ended 'z b1 b#1 boom; b: ended a3 b7 b#1 boom
		watchers a3 ->
		monitors a3 ->
		monitors a4 ->
		monitors a5 ->
		monitors a1 ->
		monitors a2 -> a#9
		halves b -> 0
		halves c -> 0
		demonitor a4 a#2 ->
	`)
}

// P19.6: one's own monitors by refs, as if each were undone.
func TestEndMonitors(t *testing.T) {
	play(t, open(t, "a3", "a1", "a2"), `
		monitor a3 b#1 b7 -> b: monitor a3 b7 b#1
		monitor a3 a#4 x@c - -> c: monitor a3 'x a#4
		monitor a3 a#3 a1 ->
		monitor a3 a#2 x@a a1 ->
		monitor a3 a#1 b7 -> b: monitor a3 b7 a#1
		monitor a3 a#5 a3 ->
		monitor a2 a#3 a1 ->
		watchers a1 -> a#2 a#3 a#3
		end a3 boom -> b: demonitor a3 b7 a#1; c: demonitor a3 'x a#4; b: demonitor a3 b7 b#1
		watchers a1 -> a#3
		halves b -> 0
		halves c -> 0
		end a1 boom -> down a2 a#3 a1 boom
	`)
}

// P19.6: links, then watchers, then monitors; two that watch and are linked with each other.
func TestEndOrder(t *testing.T) {
	play(t, open(t, "a1", "a2"), `
		monitor a1 a#1 b7 -> b: monitor a1 b7 a#1
		monitor a1 a#3 a2 ->
		monitor a2 a#2 a1 ->
		take b monitor b7 a1 a#2 ->
		link a1 a2 ->
		link a1 b7 -> b: link a1 b7
		unlink a1 b7 -> b: unlink 1 a1 b7
		link a1 b7 -> b: link a1 b7
		halves b -> 4
		end a1 boom -> exit a2 a1 boom; b: exit a1 b7 boom; down a2 a#2 a1 boom; b: ended a1 b7 a#2 boom; b: demonitor a1 b7 a#1
		links a2 ->
		monitors a2 ->
		watchers a2 ->
		halves b -> 0
		take b ack 1 b7 a1 ->
		take b exit b7 a1 late ->
		take b ended b7 a1 a#1 late ->
		end a2 boom ->
	`)
}

// P19.6: any term is a reason, and is told as it is; no other value.
func TestEndReasons(t *testing.T) {
	great := tuple(sample.Ones(api.MaxSize - 1)...)
	deep := sample.Chain(api.MaxDepth-1, num(1))
	for _, reason := range slices.Concat([]api.Term{great, deep, val("a1"), val("a#1"), num(api.MaxInt), num(api.MinInt)}, otherTerms()) {
		x := open(t, "a1", "a2")
		play(t, x, `
			link a1 a2 ->
			link a1 b7 -> b: link a1 b7
			monitor a2 a#1 a1 ->
			take b monitor b7 'x a#2 as a1 ->
		`)
		before := look(x)
		for _, wrong := range append(noTerms(), api.Term{}) {
			effects, err := x.End(val("a1"), wrong)
			refused(t, "End with "+show(wrong), effects, err, api.ErrArg)
		}
		if after := look(x); after != before {
			t.Fatalf("%s was %s", after, before)
		}
		effects, err := x.End(val("a1"), reason)
		want := []api.Effect{
			{Kind: api.FExit, To: val("a2"), From: val("a1"), Reason: reason},
			{Kind: api.FSignal, Node: "b@h", Sig: api.Sig{Kind: api.GExit, From: val("a1"), To: val("b7"), Reason: reason}},
			{Kind: api.FDown, To: val("a2"), Ref: val("a#1"), What: val("a1"), Reason: reason},
			{Kind: api.FSignal, Node: "b@h", Sig: api.Sig{Kind: api.GMonitorExit, Name: "x", To: val("b7"), Ref: val("a#2"), Reason: reason}},
		}
		if err != nil || !slices.EqualFunc(effects, want, sameEffect) {
			t.Fatalf("End with %s: %s, %v", show(reason), showEffects(effects), err)
		}
	}
}

// P19.6: one without anything.
func TestEndAlone(t *testing.T) {
	play(t, open(t, "a1", "a2"), `
		end a1 boom ->
		alive a1 -> false
		alive a2 -> true
		end a1 boom -> !380
		end a9 boom -> !380
		end b7 boom -> !380
	`)
}
