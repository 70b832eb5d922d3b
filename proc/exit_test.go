package proc_test

import (
	"fmt"
	"slices"
	"strings"
	"testing"

	"heddle/api"
	"heddle/proc"
	"heddle/sample"
)

// P20.5: a message to one that waits, that yields, that is asked, that stands in the queue already.
func TestPut(t *testing.T) {
	play(t, settled(t, "wait; spin; ask; wait 5; ask"), `
		park #5 ->
		queue -> #2 #3
		put #2 a -> true
		put #3 a -> true
		put #5 a -> true
		queue -> #2 #3
		put #4 a -> true
		queue -> #2 #3 #4
		put #4 b -> true
		queue -> #2 #3 #4
		put #1 {a,[b]} -> true
		queue -> #2 #3 #4 #1
		messages #1 -> {a,[b]}
		messages #4 -> a b
		state #4 -> waiting 0 1 2 true
		put #1 {go,home} -> true
		turn ->
		turn ->
		run 10 0 -> #4 wait 5
		run 10 0 -> #1 end home
		put #1 a -> false
		messages #1 ->
		put #4 c -> true
		messages #4 -> a b c
		queue -> #2 #3 #4
	`)
}

// P20.5: of one that does not live false, whatever the message is.
func TestPutToNobody(t *testing.T) {
	x := settled(t, "spin; quit a")
	before := look(x)
	for _, p := range strangers() {
		for _, m := range []api.Term{word("m"), {}, word("\xff"), sample.Itself()} {
			if ok, err := x.Put(p, m); ok || err != nil || look(x) != before {
				t.Fatalf("Put(%s, %s): %t, %v", show(p), show(m), ok, err)
			}
			if l := x.Messages(p); len(l) > 0 {
				t.Fatalf("Messages(%s): %s", show(p), showAll(l))
			}
		}
	}
	play(t, x, "put #1 m -> true\n messages #1 -> m")
}

// full is a table whose process has a full mailbox; it waits, or is what that call makes of it.
func full(t *testing.T, call string) *proc.Table {
	t.Helper()
	x := settled(t, call)
	for n := range api.MaxMailbox {
		if ok, err := x.Put(own(1), num(int64(n))); !ok || err != nil {
			t.Fatalf("message %d: %t, %v", n, ok, err)
		}
	}
	return x
}

// P20.5: messages that are no terms: package term's fault under, also where there is no room; a full mailbox: false.
func TestPutRefused(t *testing.T) {
	x := settled(t, "wait 5; spin")
	for _, n := range sample.NoTerms() {
		refused(t, x, step{call: "put", p: own(1), x: n.Value}, under(n.Chain...)...)
		refused(t, x, step{call: "put", p: own(2), x: n.Value}, under(n.Chain...)...)
	}
	refused(t, x, step{call: "put", p: own(1), x: sample.Itself()}, under(api.Fault{Layer: "term", At: api.MaxDepth, Code: api.ErrDeep})...)
	x = full(t, "wait 5")
	for _, n := range sample.NoTerms() {
		if _, err := x.Put(own(1), n.Value); !sample.IsFault(err, under(n.Chain...)...) {
			t.Errorf("%v, want %v", err, n.Chain)
		}
	}
	if ok, err := x.Put(own(1), word("more")); ok || err != nil || len(x.Messages(own(1))) != api.MaxMailbox {
		t.Errorf("Put: %t, %v", ok, err)
	}
	// What waits with a full mailbox is not woken by what finds no room there.
	if _, event, err := x.Run(api.MaxBudget, 0); err != nil || tellEvent(event) != "wait 5" {
		t.Fatalf("%s, %v", tellEvent(event), err)
	}
	tells(t, x, step{call: "put", p: own(1), x: word("more")}, "false")
	tells(t, x, step{call: "trap", p: own(1), yes: true}, "false")
	tells(t, x, step{call: "exit", p: own(1), from: own(1), x: word("boom")}, "message")
	if q := x.Queue(); len(q) != 0 || len(x.Messages(own(1))) != api.MaxMailbox {
		t.Errorf("queue: %s", showAll(q))
	}
	tells(t, x, step{call: "wake", now: 5}, "1")
}

// exitWants is what an exit signal does to a process, as the chapter says it, word by word.
func exitWants(reason string, fromItself, trap, link bool) (api.ExitKind, string) {
	if !link && reason == "kill" {
		return api.ExitEnded, "killed"
	}
	if trap {
		return api.ExitMessage, ""
	}
	if reason == "normal" && !fromItself {
		return api.ExitNone, ""
	}
	return api.ExitEnded, reason
}

// P20.6: all reasons, from itself and from others, by a link or not, to one that traps exits and one that does not, in every state.
func TestExit(t *testing.T) {
	froms := []api.Term{own(1), own(2), own(7), pid("n@h", 3, 1, 1), pid("n@h", 2, 1, 0), pid("m@h", 3, 1, 0)}
	states := []struct {
		calls string
		prep  func(x *proc.Table)
	}{
		{"wait; spin", func(*proc.Table) {}},
		{"wait 5; spin", func(x *proc.Table) { _, _ = x.Put(own(1), word("hello")) }},
		{"spin; spin", func(*proc.Table) {}},
		{"ask; spin", func(*proc.Table) {}},
		{"ask; spin", func(x *proc.Table) { _ = x.Park(own(1)) }},
	}
	for _, reason := range []string{"boom", "kill", "killed", "normal", "{kill}", "[]", "{normal,[kill]}", "'Normal'", "noproc"} {
		for _, from := range froms {
			for n := range 4 {
				trap, link := n%2 == 1, n/2 == 1
				for _, state := range states {
					x := settled(t, state.calls)
					state.prep(x)
					if trap {
						tells(t, x, step{call: "trap", p: own(1), yes: true}, "false")
					}
					what := fmt.Sprintf("%s: Exit from %s, %s, trap %t, link %t", state.calls, show(from), reason, trap, link)
					kind, ends := exitWants(reason, sample.Same(from, own(1)), trap, link)
					holdsExit(t, x, what, step{call: "exit", p: own(1), from: from, x: val(reason), yes: link}, kind, ends)
				}
			}
		}
	}
}

// holdsExit does an exit signal to the process 1, and holds what becomes of it; nothing becomes of others.
func holdsExit(t *testing.T, x *proc.Table, what string, s step, kind api.ExitKind, ends string) {
	t.Helper()
	before, messages := look(x), x.Messages(own(1))
	queue, other := x.Queue(), lookAt(x, []api.Term{own(2)}, nil)
	at := slices.IndexFunc(queue, func(p api.Term) bool { return sample.Same(p, own(1)) })
	state, _ := x.State(own(1))
	a, err := s.perform(x)
	if err != nil || a.exit != kind {
		t.Fatalf("%s: %v, %v, want %v", what, a.exit, err, kind)
	}
	switch kind {
	case api.ExitNone:
		if look(x) != before {
			t.Fatalf("%s: %s was %s", what, look(x), before)
		}
	case api.ExitMessage:
		messages = append(messages, tuple(word("EXIT"), s.from, s.x))
		if state.State == api.Waiting && at < 0 {
			queue = append(queue, own(1))
		}
		if got := x.Messages(own(1)); !slices.EqualFunc(got, messages, sample.Same) || showAll(x.Queue()) != showAll(queue) || len(x.Ended()) > 0 {
			t.Fatalf("%s: %s; queue %s", what, showAll(got), showAll(x.Queue()))
		}
	case api.ExitEnded:
		if at >= 0 {
			queue = slices.Delete(queue, at, at+1)
		}
		want := "living: #2\nqueue: " + showAll(queue) + "\nended: #1 " + ends + "\n"
		if got := lookAt(x, nil, nil); got != want {
			t.Fatalf("%s: %s", what, got)
		}
		if got := lookAt(x, []api.Term{own(1)}, nil); !strings.HasSuffix(got, "#1: - false false - false []\n") {
			t.Fatalf("%s: %s", what, got)
		}
		if rest := lookAt(x, []api.Term{own(2)}, nil); rest[strings.Index(rest, "#2: "):] != other[strings.Index(other, "#2: "):] {
			t.Fatalf("%s: %s was %s", what, rest, other)
		}
	}
}

// P20.6: a message that is no term has system_limit in the place of its reason: three parts and one more in depth stand around it.
func TestExitMessage(t *testing.T) {
	for _, c := range []struct {
		reason api.Term
		fits   bool
	}{
		{tuple(sample.Ones(4092)...), true}, {tuple(sample.Ones(4093)...), false}, {tuple(sample.Ones(4095)...), false},
		{sample.Chain(254, num(1)), true}, {sample.Chain(255, num(1)), false}, {list(append(sample.Ones(4091), null())...), true}, {list(append(sample.Ones(4094), null())...), false},
	} {
		x := settled(t, "wait; wait")
		tells(t, x, step{call: "trap", p: own(1), yes: true}, "false")
		tells(t, x, step{call: "exit", p: own(1), from: own(2), x: c.reason, yes: true}, "message")
		want := tuple(word("EXIT"), own(2), c.reason)
		if !c.fits {
			want.Args[2] = word("system_limit")
		}
		if got := x.Messages(own(1)); len(got) != 1 || !sample.Same(got[0], want) || showAll(x.Queue()) != "#1" {
			t.Errorf("%s: %s", show(c.reason), showAll(got))
		}
		// One that does not trap exits ends with it as it is.
		tells(t, x, step{call: "exit", p: own(2), from: own(1), x: c.reason, yes: true}, "ended")
		if d := x.Ended(); len(d) != 1 || !sample.Same(d[0].Reason, c.reason) {
			t.Errorf("%+v", d)
		}
	}
}

// P20.6: a mailbox that is full takes no message; what is told is as ever.
func TestExitFull(t *testing.T) {
	x := full(t, "wait; spin")
	tells(t, x, step{call: "trap", p: own(1), yes: true}, "false")
	for range 2 {
		tells(t, x, step{call: "exit", p: own(1), from: own(2), x: word("boom"), yes: true}, "message")
	}
	if got := x.Messages(own(1)); len(got) != api.MaxMailbox || show(got[api.MaxMailbox-1]) != "4095" {
		t.Errorf("%d messages, the last one %s", len(got), show(got[len(got)-1]))
	}
	play(t, x, "exit #1 #2 kill nolink -> ended\n ended -> #1 killed\n messages #1 ->")
}

// P20.6: from and reason that are no terms, in this order; then a from that is no pid; whether it would do anything or not.
func TestExitRefused(t *testing.T) {
	for _, trap := range []bool{false, true} {
		x := settled(t, "wait; spin")
		tells(t, x, step{call: "trap", p: own(1), yes: trap}, "false")
		for _, link := range []bool{false, true} {
			signal := func(from, reason api.Term) step {
				return step{call: "exit", p: own(1), from: from, x: reason, yes: link}
			}
			for _, n := range sample.NoTerms() {
				for _, reason := range []api.Term{word("kill"), word("normal"), {}, word("\xff"), num(1 << 60)} {
					refused(t, x, signal(n.Value, reason), under(n.Chain...)...)
				}
				for _, from := range []api.Term{own(2), own(1), word("a"), null()} {
					refused(t, x, signal(from, n.Value), under(n.Chain...)...)
				}
			}
			for _, from := range []api.Term{num(1), word("a"), ref("n@h", 3, 1, 0, 0), tuple(own(2)), null(), list(own(2), null())} {
				for _, reason := range []string{"boom", "kill", "normal"} {
					refused(t, x, signal(from, val(reason)), fault(api.ErrArg))
				}
			}
		}
	}
}

// A process that ends, by Run or by Exit: it is in no queue, has no name, no messages; nobody may do anything with it.
func TestEnd(t *testing.T) {
	for _, end := range []string{
		"put #2 {go,boom} -> true\n turn ->\n turn ->\n run 10 0 -> #2 end boom",
		"exit #2 #1 boom link -> ended",
		"put #2 a -> true\n exit #2 #1 boom nolink -> ended",
		"put #2 a -> true\n turn ->\n turn ->\n exit #2 #1 boom nolink -> ended",
	} {
		x := settled(t, "spin; wait 5; spin")
		play(t, x, "register a #2 ->\n register b #1 ->\n queue -> #1 #3")
		play(t, x, end)
		play(t, x, `
			living -> #1 #3
			ended -> #2 boom
			whereis a -> - false
			name #2 -> - false
			messages #2 ->
			state #2 -> - false
			traps #2 -> false
			unregister a -> !401
			exit #2 #1 kill nolink -> !400
			trap #2 yes -> !400
			register c #2 -> !400
			park #2 -> !400
			answer #2 a -> !400
			fail #2 exit a -> !400
			put #2 a -> false
			wake 100 -> 0
			whereis b -> #1 true
			register a #3 ->
			name #3 -> a true
			spawn spin -> #4
		`)
		if q := showAll(x.Queue()); strings.Contains(q, "#2") {
			t.Errorf("%s: queue %s", end, q)
		}
	}
}

// Ended tells who has, behind the others, as they ended, not as they were spawned.
func TestEnded(t *testing.T) {
	play(t, open(t, "quit a; spin; quit b; spin; spin"), `
		exit #4 #1 boom link -> ended
		ended -> #4 boom
		run 10 0 -> #1 end a
		exit #2 #2 normal link -> ended
		run 10 0 -> #3 end b
		exit #5 #1 kill nolink -> ended
		ended -> #4 boom, #1 a, #2 normal, #3 b, #5 killed
		exit #5 #1 kill nolink -> !400
		ended -> #4 boom, #1 a, #2 normal, #3 b, #5 killed
	`)
}

// Ended tells the last 4096.
func TestMaxEnded(t *testing.T) {
	x := open(t, "spin")
	quit := step{call: "spawn", code: source(t, standard), mod: "m", fun: "quit"}
	var want []api.Dead
	hold := func() {
		t.Helper()
		last := want[max(0, len(want)-api.MaxEnded):]
		got := x.Ended()
		if !slices.EqualFunc(got, last, func(a, b api.Dead) bool { return sample.Same(a.Pid, b.Pid) && sample.Same(a.Reason, b.Reason) }) {
			t.Fatalf("%d ended; %d are told, of which the first is %s", len(want), len(got), tellDead(got[:min(1, len(got))]))
		}
	}
	for n := range 2*api.MaxEnded + 3000 {
		quit.args = []api.Term{tuple(num(int64(n)))}
		a, err := quit.perform(x)
		done(t, "Spawn", err)
		reason := quit.args[0]
		if n%3 == 0 {
			reason = word("boom")
			tells(t, x, step{call: "exit", p: a.pid, from: own(1), x: reason}, "ended")
		} else {
			tells(t, x, step{call: "turn"}, "")
			tells(t, x, step{call: "run", budget: 1}, show(a.pid)+" end "+show(reason))
		}
		want = append(want, api.Dead{Pid: a.pid, Reason: reason})
		if k := len(want); k < 3 || k%1000 == 0 || k > api.MaxEnded-2 && k < api.MaxEnded+3 {
			hold()
		}
	}
	hold()
}

// P20.7: at first nobody traps exits; what it did is told each time.
func TestTrap(t *testing.T) {
	play(t, open(t, "spin; spin"), `
		traps #1 -> false
		trap #1 no -> false
		trap #1 yes -> false
		traps #1 -> true
		traps #2 -> false
		trap #1 yes -> true
		traps #1 -> true
		trap #2 yes -> false
		trap #1 no -> true
		traps #1 -> false
		traps #2 -> true
		trap #1 no -> false
		exit #1 #2 boom link -> ended
		trap #1 yes -> !400
		traps #1 -> false
		exit #2 #1 boom link -> message
		trap #2 no -> true
		exit #2 #1 boom link -> ended
		traps #2 -> false
		spawn spin -> #3
		traps #3 -> false
	`)
}
