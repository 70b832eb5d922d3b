package link_test

import (
	"slices"
	"strings"
	"testing"

	"heddle/api"
)

// P19.2: a living pair has each other.
func TestLinkOfTwoHere(t *testing.T) {
	play(t, open(t, "a1", "a2", "a3"), `
		link a2 a1 ->
		links a1 -> a2
		links a2 -> a1
		link a2 a1 ->
		link a1 a2 ->
		link a2 a3 ->
		links a2 -> a1 a3
		links a3 -> a2
		links a1 -> a2
		halves a -> 0
		monitors a1 ->
		watchers a1 ->
	`)
}

// P19.2: oneself, whoever one is linked with.
func TestLinkOfOneself(t *testing.T) {
	play(t, open(t, "a1", "a2"), `
		link a1 a1 ->
		links a1 ->
		unlink a1 a1 ->
		link a1 a2 ->
		link a1 a1 ->
		links a1 -> a2
		unlink a1 a1 ->
		links a1 -> a2
		end a1 boom -> exit a2 a1 boom
	`)
}

// P19.2: one that was never born, one that has ended, one of another creation: each time anew.
func TestLinkOfTheDead(t *testing.T) {
	play(t, open(t, "a1", "a2", "a3"), `
		end a2 boom ->
		link a1 a2 -> exit a1 a2 noproc
		link a1 a2 -> exit a1 a2 noproc
		link a1 a9 -> exit a1 a9 noproc
		link a1 a1/2 -> exit a1 a1/2 noproc
		link a1 a1/0 -> exit a1 a1/0 noproc
		link a1 a3.1 -> exit a1 a3.1 noproc
		links a1 ->
		unlink a1 a2 ->
		unlink a1 a9 ->
		unlink a1 a1/2 ->
		halves a -> 0
		born a9 ->
		link a1 a9 ->
		links a1 -> a9
	`)
}

// P19.2: of another node nobody knows who lives.
func TestLinkOfAnotherNode(t *testing.T) {
	play(t, open(t, "a1", "a2"), `
		link a1 b7 -> b: link a1 b7
		link a1 b7 ->
		links a1 -> b7
		halves b -> 1
		link a1 b7/2 -> b: link a1 b7/2
		link a1 b7.1 -> b: link a1 b7.1
		link a1 b1 -> b: link a1 b1
		link a1 c7 -> c: link a1 c7
		links a1 -> b1 b7 b7.1 b7/2 c7
		link a2 b7 -> b: link a2 b7
		links a2 -> b7
		halves b -> 5
		halves c -> 1
		halves a -> 0
		halves d -> 0
	`)
}

// P19.2, P19.3: what is no pid is no partner, also where nothing is there to undo.
func TestLinkOfNoPid(t *testing.T) {
	x := open(t, "a1", "a2")
	play(t, x, "link a1 a2 ->\n link a1 b7 -> b: link a1 b7")
	before := look(x)
	for _, q := range slices.Concat([]api.Term{{}, val("a#1")}, noTerms(), otherTerms()) {
		effects, err := x.Link(val("a1"), q)
		refused(t, "Link with "+show(q), effects, err, api.ErrArg)
		effects, err = x.Unlink(val("a1"), q)
		refused(t, "Unlink of "+show(q), effects, err, api.ErrArg)
	}
	if after := look(x); after != before {
		t.Errorf("%s was %s", after, before)
	}
	play(t, x, "unlink a1 b7 -> b: unlink 1 a1 b7")
}

// P19.3: of one's own both have each other no more, whoever says so, and nobody is told.
func TestUnlinkOfTwoHere(t *testing.T) {
	play(t, open(t, "a1", "a2", "a3"), `
		unlink a1 a2 ->
		link a1 a2 ->
		link a1 a3 ->
		unlink a2 a1 ->
		links a1 -> a3
		links a2 ->
		link a2 a1 ->
		unlink a2 a1 ->
		unlink a2 a1 ->
		unlink a3 a2 ->
		links a3 -> a1
		halves a -> 0
		end a1 boom -> exit a3 a1 boom
		link a2 b7 -> b: link a2 b7
		unlink a2 b7 -> b: unlink 1 a2 b7
	`)
}

// P19.3: numbers rise in the whole table, by unlinks of other nodes' processes alone.
func TestUnlinkNumbers(t *testing.T) {
	play(t, open(t, "a1", "a2"), `
		unlink a1 b7 ->
		halves b -> 0
		link a1 b7 -> b: link a1 b7
		link a1 c7 -> c: link a1 c7
		link a2 b7 -> b: link a2 b7
		unlink a1 b7 -> b: unlink 1 a1 b7
		links a1 -> c7
		halves b -> 2
		unlink a1 b7 ->
		unlink a1 b8 ->
		unlink a2 c7 ->
		halves b -> 2
		unlink a1 c7 -> c: unlink 2 a1 c7
		halves c -> 1
		unlink a2 b7 -> b: unlink 3 a2 b7
		halves b -> 2
		take b ack 1 b7 a1 ->
		halves b -> 1
		link a1 b7 -> b: link a1 b7
		unlink a1 b7 -> b: unlink 4 a1 b7
		end a1 boom ->
		halves b -> 1
		born a3 ->
		link a3 b7 -> b: link a3 b7
		unlink a3 b7 -> b: unlink 5 a3 b7
		down b ->
		link a3 b7 -> b: link a3 b7
		unlink a3 b7 -> b: unlink 6 a3 b7
	`)
}

// P19.3, P19.7: of one process several unlinks may be on their way: only behind the last confirmation its signals count again.
func TestUnlinkTwice(t *testing.T) {
	play(t, open(t, "a1"), `
		link a1 b7 -> b: link a1 b7
		unlink a1 b7 -> b: unlink 1 a1 b7
		link a1 b7 -> b: link a1 b7
		halves b -> 2
		unlink a1 b7 -> b: unlink 2 a1 b7
		halves b -> 2
		link a1 b7 -> b: link a1 b7
		halves b -> 3
		take b exit b7 a1 boom ->
		take b ack 2 b7 a1 ->
		halves b -> 2
		take b exit b7 a1 boom ->
		take b ack 2 b7 a1 ->
		take b ack 3 b7 a1 ->
		take b ack 1 b8 a1 ->
		take b ack 1 b7/2 a1 ->
		halves b -> 2
		links a1 -> b7
		take b ack 1 b7 a1 ->
		halves b -> 1
		take b exit b7 a1 boom -> exit a1 b7 boom
		halves b -> 0
		take b ack 1 b7 a1 ->
		halves b -> 0
	`)
}

// P19.3: many unlinks of one process, confirmed in another order.
func TestManyUnlinks(t *testing.T) {
	x := open(t, "a1")
	const many = 3000
	for range many {
		play(t, x, "link a1 b7 -> b: link a1 b7")
		effects, err := x.Unlink(val("a1"), val("b7"))
		if err != nil || len(effects) != 1 {
			t.Fatalf("Unlink: %s, %v", showEffects(effects), err)
		}
	}
	for i := range many {
		id := uint32((i*7)%many + 1)
		if x.Halves("b@h") != many-i {
			t.Fatalf("%d are confirmed, but Halves is %d", i, x.Halves("b@h"))
		}
		_, err := x.Take("b@h", api.Sig{Kind: api.GUnlinkAck, ID: id, From: val("b7"), To: val("a1")}, api.Term{})
		done(t, "Take", err)
	}
	play(t, x, "halves b -> 0")
}

// P19.9: links are told in the order of terms, whoever they are with.
func TestLinksInOrder(t *testing.T) {
	x := open(t, "a1")
	pids := []api.Term{pid("A@h", 1, 1, 0), pid("B@z", 9, 9, 9), pid("a@g", 7, 0, 0), val("a0"), val("a2"), val("a10"), val("a10.1"), pid("a@h.i", 0, 0, 0), pid("aa@h", 0, 0, 0),
		val("b1/0"), val("b9/0"), val("b1"), val("b1.1"), val("b9"), val("b10"), val("b256"), val("b4294967295"), val("b1/256"), val("b1/4294967295"), pid("b@hh", 0, 0, 0), pid("b_@h", 0, 0, 0)}
	for _, p := range pids {
		if p.Text == "a@h" {
			done(t, "Born", x.Born(p))
		}
	}
	for i := range pids {
		_, err := x.Link(val("a1"), pids[(i*8)%len(pids)])
		done(t, "Link", err)
	}
	if got := showAll(x.Links(val("a1"))); got != showAll(pids) {
		t.Errorf("Links: %s\nwant %s", got, showAll(pids))
	}
	effects, err := x.End(val("a1"), word("boom"))
	done(t, "End", err)
	var told []string
	for _, e := range effects {
		told = append(told, show(e.To)+show(e.Sig.To))
	}
	if got := strings.ReplaceAll(strings.Join(told, " "), "-", ""); got != showAll(pids) {
		t.Errorf("End: %s", got)
	}
}
