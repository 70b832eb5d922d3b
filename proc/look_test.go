package proc_test

import (
	"testing"

	"heddle/api"
	"heddle/proc"
)

// P20.9: Living by ids, whatever the queue is; Queue in order.
func TestLiving(t *testing.T) {
	play(t, open(t, ""), "living ->\n queue ->\n ended ->")
	play(t, open(t, "wait; spin; ask; spin"), `
		living -> #1 #2 #3 #4
		queue -> #1 #2 #3 #4
		run 10 0 -> #1 wait
		run 10 0 -> #2 yield
		living -> #1 #2 #3 #4
		queue -> #3 #4 #2
		exit #4 #1 boom link -> ended
		living -> #1 #2 #3
		queue -> #3 #2
		spawn spin -> #5
		run 10 0 -> #3 nodes()
		turn ->
		living -> #1 #2 #3 #5
		queue -> #2 #5 #3
	`)
	// Ten and more stand by their numbers, not by their digits.
	x := open(t, "")
	for range 12 {
		tells(t, x, step{call: "spawn"}, show(own(len(x.Living())+1)))
	}
	play(t, x, "living -> #1 #2 #3 #4 #5 #6 #7 #8 #9 #10 #11 #12\n exit #3 #1 boom link -> ended\n living -> #1 #2 #4 #5 #6 #7 #8 #9 #10 #11 #12")
}

// P20.9: Messages and State behind every call.
func TestState(t *testing.T) {
	c := source(t, "-module(m). -export([f/0]). f() -> receive {go, X} -> g(X) end. g(X) -> [h(X)]. h(X) -> exit({nodes(), X}).")
	x := open(t, "")
	_, err := x.Spawn(c, "m", "f", nil)
	done(t, "Spawn", err)
	play(t, x, `
		state #1 -> ready 0 1 0 true
		messages #1 ->
		put #1 a -> true
		state #1 -> ready 0 1 1 true
		run 1 0 -> #1 wait
		state #1 -> waiting 1 1 1 true
		put #1 {go,away} -> true
		messages #1 -> a {go,away}
		state #1 -> waiting 1 1 2 true
		run 2 0 -> #1 yield
		state #1 -> ready 3 2 1 true
		messages #1 -> a
		run 2 0 -> #1 nodes()
		state #1 -> asked 4 2 1 true
		park #1 ->
		state #1 -> asked 4 2 1 true
		answer #1 [] ->
		state #1 -> ready 4 2 1 true
		run 10 0 -> #1 end {[],away}
		state #1 -> - false
		messages #1 ->
	`)
}

// P20.9: of what is no process that lives, nothing.
func TestNobody(t *testing.T) {
	x := settled(t, "wait; quit a")
	play(t, x, "register a #1 ->\n trap #1 yes -> false\n put #1 m -> true")
	for _, p := range strangers() {
		state, lives := x.State(p)
		name, named := x.Name(p)
		if lives || state != (api.Process{}) || named || name != "" || x.Traps(p) || len(x.Messages(p)) > 0 {
			t.Errorf("%s: %+v %t %q %t %t", show(p), state, lives, name, named, x.Traps(p))
		}
		for _, s := range []step{
			{call: "park"}, {call: "answer", x: word("a")}, {call: "answer"}, {call: "fail", word: "exit", x: word("a")}, {call: "fail"},
			{call: "exit", from: own(1), x: word("a")}, {call: "exit"}, {call: "trap", yes: true}, {call: "trap"}, {call: "register", word: "b"}, {call: "register"},
		} {
			s.p = p
			refused(t, x, s, fault(api.ErrProc))
		}
	}
	// A pid with lists that are empty is as one without.
	p := own(1)
	p.Args = []api.Term{}
	if name, ok := x.Name(p); name != "a" || !ok || !x.Traps(p) || len(x.Messages(p)) != 1 {
		t.Error("a pid with an empty list is nobody's")
	}
}

// Rule 5: two tables know nothing of one another.
func TestTables(t *testing.T) {
	x, y := open(t, "spin; wait 5"), open(t, "")
	play(t, x, "register a #1 ->\n trap #1 yes -> false\n run 10 7 -> #1 yield\n run 10 7 -> #2 wait 12")
	play(t, y, "living ->\n whereis a -> - false\n wake 3 -> 0\n spawn wait 5 -> #1\n traps #1 -> false\n register a #1 ->\n run 10 3 -> #1 wait 8\n wake 20 -> 1\n run 10 20 -> #1 end late")
	play(t, x, "living -> #1 #2\n queue -> #1\n whereis a -> #1 true\n ended ->\n wake 11 -> 0\n wake 12 -> 1")
	z, err := proc.New("n@h", 3)
	done(t, "New", err)
	if got := lookAt(z, nil, nil); got != "living: \nqueue: \nended: \n" {
		t.Error(got)
	}
}
