package link_test

import (
	"math"
	"slices"
	"testing"

	"heddle/api"
	"heddle/sample"
)

// P19.7: a GLink.
func TestTakeLink(t *testing.T) {
	play(t, open(t, "a1", "a2"), `
		take b link b7 a1 ->
		links a1 -> b7
		halves b -> 1
		take b link b7 a1 ->
		link a1 b7 ->
		halves b -> 1
		take b link b7/2 a1 ->
		take c link c7 a1 ->
		take b link b7 a2 ->
		links a1 -> b7 b7/2 c7
		links a2 -> b7
		end a2 boom -> b: exit a2 b7 boom
		take b link b7 a2 -> b: exit a2 b7 noproc
		take b link b7 a9 -> b: exit a9 b7 noproc
		take b link b7 a1/2 -> b: exit a1/2 b7 noproc
		take b link b7/2 a1.1 -> b: exit a1.1 b7/2 noproc
		take b link b7 c1 -> b: exit c1 b7 noproc
		take b link b7 b7 -> b: exit b7 b7 noproc
		links a1 -> b7 b7/2 c7
		halves b -> 2
		unlink a1 c7 -> c: unlink 1 a1 c7
	`)
}

// P19.7: a GLink while an unlink is on its way is of the time ahead of it; behind the confirmation it counts.
func TestTakeLinkBehindUnlink(t *testing.T) {
	play(t, open(t, "a1", "a2"), `
		link a1 b7 -> b: link a1 b7
		unlink a1 b7 -> b: unlink 1 a1 b7
		take b link b7 a1 ->
		links a1 ->
		take b link b8 a1 ->
		take b link b7/2 a1 ->
		take b link b7 a2 ->
		links a1 -> b8 b7/2
		links a2 -> b7
		take b ack 1 b7 a1 ->
		halves b -> 3
		take b link b7 a1 ->
		links a1 -> b7 b8 b7/2
		unlink a1 b7 -> b: unlink 2 a1 b7
		end a1 boom -> b: exit a1 b8 boom; b: exit a1 b7/2 boom
		take b link b7 a1 -> b: exit a1 b7 noproc
	`)
}

// P19.7: a GUnlink is confirmed in any case.
func TestTakeUnlink(t *testing.T) {
	play(t, open(t, "a1", "a2"), `
		take b unlink 7 b7 a1 -> b: ack 7 a1 b7
		link a1 b7 -> b: link a1 b7
		link a1 b8 -> b: link a1 b8
		link a2 b7 -> b: link a2 b7
		take b unlink 7 b7 a1 -> b: ack 7 a1 b7
		links a1 -> b8
		links a2 -> b7
		halves b -> 2
		take b unlink 1 b8/2 a1 -> b: ack 1 a1 b8/2
		take b unlink 2147483647 b8 a1 -> b: ack 2147483647 a1 b8
		links a1 ->
		end a1 boom ->
		take b unlink 9 b7 a1 -> b: ack 9 a1 b7
		take b unlink 9 b7 a9 -> b: ack 9 a9 b7
		take b unlink 9 b7/2 a2/2 -> b: ack 9 a2/2 b7/2
		take b unlink 9 b7 c1 -> b: ack 9 c1 b7
		take c unlink 9 c7 a2 -> c: ack 9 a2 c7
		links a2 -> b7
		halves b -> 1
	`)
}

// P19.7: a GUnlink does not end this node's own unlink; the next number is this table's own.
func TestTakeUnlinkBehindUnlink(t *testing.T) {
	play(t, open(t, "a1"), `
		link a1 b7 -> b: link a1 b7
		unlink a1 b7 -> b: unlink 1 a1 b7
		take b unlink 5 b7 a1 -> b: ack 5 a1 b7
		halves b -> 1
		link a1 b7 -> b: link a1 b7
		take b unlink 6 b7 a1 -> b: ack 6 a1 b7
		links a1 ->
		link a1 b7 -> b: link a1 b7
		unlink a1 b7 -> b: unlink 2 a1 b7
		halves b -> 2
	`)
}

// P19.7: a GUnlinkAck ends the unlink of that process by that pid with that number alone.
func TestTakeAck(t *testing.T) {
	play(t, open(t, "a1", "a2"), `
		take b ack 1 b7 a1 ->
		link a1 b7 -> b: link a1 b7
		link a1 b8 -> b: link a1 b8
		link a2 b7 -> b: link a2 b7
		unlink a1 b7 -> b: unlink 1 a1 b7
		unlink a1 b8 -> b: unlink 2 a1 b8
		unlink a2 b7 -> b: unlink 3 a2 b7
		take b ack 2 b7 a1 ->
		take b ack 3 b7 a1 ->
		take b ack 1 b8 a1 ->
		take b ack 1 b7/2 a1 ->
		take b ack 1 b7 a2 ->
		take b ack 1 b7 a9 ->
		take c ack 1 c7 a1 ->
		take c ack 1 b7 a1 ->
		halves b -> 3
		take b ack 1 b7 a1 ->
		halves b -> 2
		take b ack 1 b7 a1 ->
		take b ack 3 b7 a2 ->
		take b ack 2 b8 a1 ->
		halves b -> 0
		end a2 boom ->
		take b ack 3 b7 a2 ->
	`)
}

// P19.7: a GExit of a link that is there, and of no other one.
func TestTakeExit(t *testing.T) {
	play(t, open(t, "a1", "a2"), `
		take b exit b7 a1 boom ->
		link a1 b7 -> b: link a1 b7
		link a1 b8 -> b: link a1 b8
		link a2 b7 -> b: link a2 b7
		monitor a1 a#1 b7 -> b: monitor a1 b7 a#1
		take b exit b9 a1 boom ->
		take b exit b7/2 a1 boom ->
		take b exit b7.1 a1 boom ->
		take b exit b7 a9 boom ->
		take b exit b7 a1/2 boom ->
		take b exit b7 c1 boom ->
		take b exit b7 a1 {a,[1|b]} -> exit a1 b7 {a,[1|b]}
		take b exit b7 a1 boom ->
		links a1 -> b8
		links a2 -> b7
		monitors a1 -> a#1
		end a2 x -> b: exit a2 b7 x
		take b exit b7 a2 boom ->
		take b link b7 a1 ->
		take b exit b7 a1 boom -> exit a1 b7 boom
		halves b -> 2
	`)
}

// P19.7: a GExit of what was unlinked, and not confirmed, counts for nothing, also when it is linked anew.
func TestTakeExitBehindUnlink(t *testing.T) {
	play(t, open(t, "a1", "a2"), `
		link a1 b7 -> b: link a1 b7
		link a1 b8 -> b: link a1 b8
		link a2 b7 -> b: link a2 b7
		unlink a1 b7 -> b: unlink 1 a1 b7
		take b exit b7 a1 boom ->
		take b exit b8 a1 boom -> exit a1 b8 boom
		take b exit b7 a2 boom -> exit a2 b7 boom
		link a1 b7 -> b: link a1 b7
		take b exit b7 a1 boom ->
		links a1 -> b7
		take b ack 1 b7 a1 ->
		take b exit b7 a1 boom -> exit a1 b7 boom
		links a1 ->
		halves b -> 0
	`)
}

// P19.7: a GMonitor of a pid.
func TestTakeMonitor(t *testing.T) {
	play(t, open(t, "a1", "a2"), `
		take b monitor b7 a1 b#1 ->
		watchers a1 -> b#1
		monitors a1 ->
		halves b -> 1
		take b monitor b7 a1 b#1 ->
		watchers a1 -> b#1
		take b monitor b7 a1 b#2 ->
		take b monitor b8 a1 b#1 ->
		take b monitor b7/2 a1 b#1 ->
		take b monitor b7 a2 b#1 ->
		take c monitor c7 a1 b#1 ->
		watchers a1 -> b#1 b#1 b#1 b#1 b#2
		watchers a2 -> b#1
		halves b -> 5
		halves c -> 1
		end a2 boom -> b: ended a2 b7 b#1 boom
		take b monitor b7 a2 b#1 -> b: ended a2 b7 b#1 noproc
		take b monitor b7 a9 c#1 -> b: ended a9 b7 c#1 noproc
		take b monitor b7 a1/2 b#1 -> b: ended a1/2 b7 b#1 noproc
		take b monitor b7 c1 b#1 -> b: ended c1 b7 b#1 noproc
		halves b -> 4
	`)
}

// P19.7: a GMonitor of a Name: the process that has it, if one has and lives.
func TestTakeMonitorName(t *testing.T) {
	play(t, open(t, "a1", "a2"), `
		take b monitor b7 'x b#1 as a1 ->
		take b monitor b7 ' b#2 as a1 ->
		watchers a1 -> b#1 b#2
		take b monitor b7 'x b#3 -> b: ended 'x b7 b#3 noproc
		take b monitor b7 'x b#3 as - -> b: ended 'x b7 b#3 noproc
		take b monitor b7 ' b#3 -> b: ended ' b7 b#3 noproc
		take b monitor b7 'x b#3 as a9 -> b: ended 'x b7 b#3 noproc
		take b monitor b7 'x b#3 as a1/2 -> b: ended 'x b7 b#3 noproc
		take b monitor b7 'x b#3 as b7 -> b: ended 'x b7 b#3 noproc
		take b monitor b7 'x b#3 as c7 -> b: ended 'x b7 b#3 noproc
		end a2 boom ->
		take b monitor b7 'x b#3 as a2 -> b: ended 'x b7 b#3 noproc
		watchers a1 -> b#1 b#2
		halves b -> 2
		take b monitor b7 a2 b#3 as a1 -> b: ended a2 b7 b#3 noproc
		take b monitor b7 a1 b#3 as a2 ->
		watchers a1 -> b#1 b#2 b#3
		end a1 boom -> b: ended 'x b7 b#1 boom; b: ended ' b7 b#2 boom; b: ended a1 b7 b#3 boom
	`)
}

// P19.7: what is watched by that Ref already stays as it is, of the same process; another process is watched beside it.
func TestTakeMonitorTwice(t *testing.T) {
	play(t, open(t, "a1", "a2"), `
		take b monitor b7 a1 b#1 ->
		take b monitor b7 'x b#1 as a1 ->
		take b monitor b7 'x b#2 as a1 ->
		take b monitor b7 'y b#2 as a1 ->
		take b monitor b7 a1 b#2 ->
		take b monitor b7 'x b#1 as a2 ->
		take b monitor b7 a2 b#1 ->
		watchers a1 -> b#1 b#2
		watchers a2 -> b#1
		halves b -> 3
		end a1 boom -> b: ended a1 b7 b#1 boom; b: ended 'x b7 b#2 boom
		end a2 boom -> b: ended 'x b7 b#1 boom
	`)
}

// P19.7: a GDemonitor of a pid, and of a Name.
func TestTakeDemonitor(t *testing.T) {
	play(t, open(t, "a1", "a2"), `
		take b demonitor b7 a1 b#1 ->
		take b monitor b7 a1 b#1 ->
		take b monitor b7 a1 b#2 ->
		take b monitor b7 'x b#3 as a1 ->
		take b monitor b7 'x b#4 as a1 ->
		take b monitor b8 a1 b#1 ->
		take b monitor b7 a2 b#1 ->
		monitor a2 b#1 a1 ->
		take b demonitor b7 a1 b#9 ->
		take b demonitor b9 a1 b#1 ->
		take b demonitor b7/2 a1 b#1 ->
		take b demonitor b7 a9 b#1 ->
		take b demonitor b7 'x b#1 ->
		take b demonitor b7 'x b#1 as a9 ->
		watchers a1 -> b#1 b#1 b#1 b#2 b#3 b#4
		take b demonitor b7 a1 b#1 as a2 ->
		watchers a1 -> b#1 b#1 b#2 b#3 b#4
		watchers a2 -> b#1
		take b demonitor b7 a1 b#1 ->
		take b demonitor b7 'x b#2 as a1 ->
		take b demonitor b7 a1 b#3 ->
		take b demonitor b7 'y b#4 as a1 ->
		watchers a1 -> b#1 b#1
		halves b -> 2
		monitors a2 -> b#1
		end a1 boom -> down a2 b#1 a1 boom; b: ended a1 b8 b#1 boom
		take b demonitor b8 a1 b#1 ->
	`)
}

// P19.7: a GMonitorExit tells the end of whom the monitor watches, of nobody else.
func TestTakeMonitorExit(t *testing.T) {
	play(t, open(t, "a1", "a2"), `
		take b ended b7 a1 a#1 boom ->
		monitor a1 a#1 b7 -> b: monitor a1 b7 a#1
		monitor a1 a#2 x@b - -> b: monitor a1 'x a#2
		monitor a1 a#3 a2 ->
		monitor a2 a#1 b7 -> b: monitor a2 b7 a#1
		take b ended b8 a1 a#1 boom ->
		take b ended b7/2 a1 a#1 boom ->
		take b ended 'x a1 a#1 boom ->
		take b ended ' a1 a#1 boom ->
		take b ended b7 a1 b#1 boom ->
		take b ended b7 a1 a#2 boom ->
		take b ended 'y a1 a#2 boom ->
		take b ended ' a1 a#2 boom ->
		take c ended 'x a1 a#2 boom ->
		take c ended c7 a1 a#1 boom ->
		take b ended b7 a1 a#3 boom ->
		take b ended 'x a1 a#3 boom ->
		take b ended ' a1 a#3 boom ->
		take b ended b7 a9 a#1 boom ->
		take b ended b7 a1/2 a#1 boom ->
		monitors a1 -> a#1 a#2 a#3
		take b ended b7 a1 a#1 {a,b} -> down a1 a#1 b7 {a,b}
		take b ended b7 a1 a#1 boom ->
		take b ended 'x a1 a#2 boom -> down a1 a#2 x@b boom
		take b ended 'x a1 a#2 boom ->
		monitors a1 -> a#3
		monitors a2 -> a#1
		halves b -> 1
		end a2 x -> down a1 a#3 a2 x; b: demonitor a2 b7 a#1
		take b ended b7 a2 a#1 boom ->
	`)
}

// P19.7: a signal whose From is a pid of another node than it comes from is nobody's, whatever it is.
func TestTakeOfThirdNode(t *testing.T) {
	x := open(t, "a1")
	play(t, x, `
		link a1 b7 -> b: link a1 b7
		link a1 b8 -> b: link a1 b8
		unlink a1 b8 -> b: unlink 1 a1 b8
		monitor a1 a#1 b7 -> b: monitor a1 b7 a#1
		take b monitor b7 a1 b#1 ->
	`)
	before := look(x)
	for _, other := range []string{"a1", "a2", "a1/2", "b7", "b8", "d1"} {
		for _, here := range []string{"a1", "a9", "b7"} {
			for _, words := range [][]string{
				{"link", other, here}, {"unlink", "1", other, here}, {"ack", "1", other, here}, {"exit", other, here, "boom"},
				{"monitor", other, here, "b#2"}, {"monitor", other, "'x", "b#2"}, {"demonitor", other, here, "b#1"}, {"demonitor", other, "'x", "b#1"}, {"ended", other, here, "a#1", "boom"},
			} {
				effects, err := x.Take("c@h", sig(words...), val("a1"))
				if after := look(x); len(effects) > 0 || err != nil || after != before {
					t.Fatalf("%v from c@h: %s, %v; %s", words, showEffects(effects), err, after)
				}
			}
		}
	}
}

// P19.7: signals of these kinds are about links and monitors; no others.
var takenKinds = []api.SigKind{api.GLink, api.GExit, api.GMonitor, api.GDemonitor, api.GMonitorExit, api.GUnlink, api.GUnlinkAck}

// whole is a signal of a kind that has all fields.
func whole(kind api.SigKind) api.Sig {
	return api.Sig{Kind: kind, From: val("b7"), To: val("a1"), Name: "x", Ref: val("b#1"), ID: 1, Reason: word("boom"), Msg: num(1), Mod: "m", Fun: "f", Args: []api.Term{num(1)}}
}

// P19.7: what is refused, and what lies under it: a signal that package dist refuses.
func TestTakeRefused(t *testing.T) {
	x := open(t, "a1")
	play(t, x, `
		link a1 b7 -> b: link a1 b7
		monitor a1 b#1 b7 -> b: monitor a1 b7 b#1
		take b monitor b7 a1 b#1 ->
	`)
	before := look(x)
	none := func(what, from string, s api.Sig, named api.Term, chain ...api.Fault) {
		t.Helper()
		effects, err := x.Take(from, s, named)
		if after := look(x); len(effects) > 0 || !sample.IsFault(err, append([]api.Fault{fault(api.ErrArg)}, chain...)...) || after != before {
			t.Fatalf("%s: %s, %v; %s was %s", what, showEffects(effects), err, after, before)
		}
	}
	ill := api.Fault{Layer: "dist", Code: api.ErrSig}
	for kind := api.SigKind(-1); kind < 40; kind++ {
		for _, from := range append(noNodes, "a@h") {
			none("from", from, whole(kind), api.Term{})
			none("from", from, api.Sig{Kind: kind}, api.Term{})
		}
		if slices.Contains(takenKinds, kind) {
			continue
		}
		if _, other := sigWords[kind]; other {
			s := whole(kind)
			if kind == api.GSpawnReply {
				s.Reason = val("b7")
			}
			none("a kind of others", "b@h", s, api.Term{})
		} else {
			none("no kind", "b@h", whole(kind), api.Term{}, ill)
		}
	}
	none("no kind", "b@h", whole(math.MaxInt), api.Term{}, ill)
	for _, kind := range takenKinds {
		for what, spoil := range spoils(kind) {
			s := whole(kind)
			spoil(&s)
			none(what, "b@h", s, api.Term{}, ill)
			none(what, "b@h", s, num(1), ill)
			none(what, "", s, num(1))
		}
		for _, named := range slices.Concat([]api.Term{val("a#1")}, noTerms(), otherTerms()) {
			if named.Kind != 0 {
				none("named", "b@h", whole(kind), named)
			}
		}
	}
}

// spoils is what a kind's signals may not have.
func spoils(kind api.SigKind) map[string]func(*api.Sig) {
	all := map[string]func(*api.Sig){}
	for i, x := range slices.Concat([]api.Term{{}, val("a#1")}, noTerms(), otherTerms()) {
		id := show(x) + string(rune('A'+i))
		if kind != api.GMonitorExit {
			all["From "+id] = func(s *api.Sig) { s.From = x }
		} else {
			all["From and Name "+id] = func(s *api.Sig) { s.From, s.Name = x, "\xff" }
		}
		if kind != api.GMonitor && kind != api.GDemonitor {
			all["To "+id] = func(s *api.Sig) { s.To = x }
		} else {
			all["To and Name "+id] = func(s *api.Sig) { s.To, s.Name = x, "\xff" }
		}
		if kind == api.GMonitor || kind == api.GDemonitor || kind == api.GMonitorExit {
			all["Ref "+id] = func(s *api.Sig) {
				if s.Ref = x; x.Kind == api.KRef {
					s.Ref.Nums = s.Ref.Nums[:2:2]
				}
			}
		}
	}
	if kind == api.GExit || kind == api.GMonitorExit {
		for i, x := range append(noTerms(), api.Term{}) {
			all["Reason "+show(x)+string(rune('A'+i))] = func(s *api.Sig) { s.Reason = x }
		}
	}
	if kind == api.GUnlink || kind == api.GUnlinkAck {
		for _, id := range []uint32{0, api.MaxWire + 1, math.MaxUint32} {
			all["ID "+show(num(int64(id)))] = func(s *api.Sig) { s.ID = id }
		}
	}
	return all
}

// Rule 8: what a kind does not name, a Name beside a pid and what has no Kind play no part.
func TestTakeBeside(t *testing.T) {
	for _, kind := range takenKinds {
		for _, here := range []string{"a1", "a9"} {
			for _, named := range []api.Term{{}, {Text: "a@h", Creation: 1, Nums: []uint32{2, 0}}, {Args: loop().Args}, val("a2"), val("a9"), val("b7"), val("c7")} {
				lean, laden := api.Sig{Kind: kind, From: val("b7"), To: val(here)}, whole(kind)
				laden.To, laden.Msg, laden.Mod, laden.Fun, laden.Args, laden.Name = lean.To, loop(), "\xff", "\xff", []api.Term{loop()}, "\xff"
				switch kind {
				case api.GUnlink, api.GUnlinkAck:
					lean.ID, laden.Ref, laden.Reason = laden.ID, loop(), loop()
				case api.GLink:
					laden.ID, laden.Ref, laden.Reason = 1<<31, loop(), loop()
				case api.GExit:
					lean.Reason, laden.ID, laden.Ref = laden.Reason, 0, loop()
				case api.GMonitor, api.GDemonitor:
					lean.Ref, laden.ID, laden.Reason = laden.Ref, 0, loop()
				case api.GMonitorExit:
					lean.Ref, lean.Reason, laden.ID = laden.Ref, laden.Reason, 0
				}
				var texts [2]string
				for i, s := range []api.Sig{lean, laden} {
					x := open(t, "a1", "a2")
					play(t, x, `
						link a1 b7 -> b: link a1 b7
						link a1 b8 -> b: link a1 b8
						link a2 b7 -> b: link a2 b7
						unlink a2 b7 -> b: unlink 1 a2 b7
						monitor a1 b#1 b7 -> b: monitor a1 b7 b#1
						monitor a2 b#1 b7 -> b: monitor a2 b7 b#1
						take b monitor b7 a2 b#1 ->
					`)
					effects, err := x.Take("b@h", s, named)
					done(t, "Take", err)
					texts[i] = showEffects(effects) + " / " + look(x)
				}
				if texts[0] != texts[1] {
					t.Fatalf("kind %d: %s\nwith more: %s", kind, texts[0], texts[1])
				}
			}
		}
	}
}

// P19.7: a To (of a GMonitorExit a From) that is no pid leaves the Name.
func TestTakeNoPid(t *testing.T) {
	for _, x := range slices.Concat([]api.Term{val("a#1")}, noTerms(), otherTerms()) {
		y := open(t, "a1", "a2")
		s := sig("monitor", "b7", "'x", "b#1")
		s.To = x
		if effects, err := y.Take("b@h", s, val("a2")); len(effects) > 0 || err != nil {
			t.Fatalf("%s: %s, %v", show(x), showEffects(effects), err)
		}
		play(t, y, "watchers a2 -> b#1")
		if effects, err := y.Take("b@h", s, val("a3")); err != nil || showEffects(effects) != "b: ended 'x b7 b#1 noproc" {
			t.Fatalf("%s: %s, %v", show(x), showEffects(effects), err)
		}
		play(t, y, "monitor a1 b#1 x@b - -> b: monitor a1 'x b#1")
		s = sig("ended", "'x", "a1", "b#1", "boom")
		s.From = x
		if effects, err := y.Take("b@h", s, api.Term{}); err != nil || showEffects(effects) != "down a1 b#1 x@b boom" {
			t.Fatalf("%s: %s, %v", show(x), showEffects(effects), err)
		}
		s = sig("demonitor", "b7", "'x", "b#1")
		s.To = x
		if effects, err := y.Take("b@h", s, val("a2")); len(effects) > 0 || err != nil {
			t.Fatalf("%s: %s, %v", show(x), showEffects(effects), err)
		}
		play(t, y, "watchers a2 ->")
	}
}

// P19.7: the greatest and the deepest reasons are told as they are.
func TestTakeReasons(t *testing.T) {
	for _, reason := range slices.Concat([]api.Term{tuple(sample.Ones(api.MaxSize - 1)...), sample.Chain(api.MaxDepth-1, num(1)), val("a1"), val("b#1")}, otherTerms()) {
		x := open(t, "a1")
		play(t, x, "link a1 b7 -> b: link a1 b7\n monitor a1 a#1 x@b - -> b: monitor a1 'x a#1")
		one, err := x.Take("b@h", api.Sig{Kind: api.GExit, From: val("b7"), To: val("a1"), Reason: reason}, api.Term{})
		done(t, "Take", err)
		two, err := x.Take("b@h", api.Sig{Kind: api.GMonitorExit, Name: "x", To: val("a1"), Ref: val("a#1"), Reason: reason}, api.Term{})
		done(t, "Take", err)
		want := []api.Effect{{Kind: api.FExit, To: val("a1"), From: val("b7"), Reason: reason}, {Kind: api.FDown, To: val("a1"), Ref: val("a#1"), What: val("{x,'b@h'}"), Reason: reason}}
		if got := append(one, two...); !slices.EqualFunc(got, want, sameEffect) {
			t.Errorf("%s", showEffects(got))
		}
	}
}
