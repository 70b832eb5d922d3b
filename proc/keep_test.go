package proc_test

import (
	"slices"
	"strings"
	"testing"

	"heddle/api"
	"heddle/proc"
	"heddle/sample"
	"heddle/term"
)

// deep is a term with lists of parts and of numbers at every depth.
func deep() api.Term {
	return tuple(own(1), list(ref("n@h", 1, 1, 2, 3), tuple(num(2), tuple(pid("m@h", 2, 3, 4))), null()))
}

// handed does a call with memory of its own, which is not changed by it, and then writes over that.
func handed(t testing.TB, x *proc.Table, s step) (answer, error) {
	t.Helper()
	given, args, c := sample.Roomy([]api.Term{s.p, s.from, s.x}), sample.Roomy(s.args), sample.RoomyCode(s.code)
	g := s
	g.p, g.from, g.x, g.args, g.code = given[0], given[1], given[2], args, c
	a, err := g.perform(x)
	if !sample.Untouched(given, []api.Term{s.p, s.from, s.x}) || !sample.Untouched(args, s.args) || !sample.UntouchedCode(c, s.code) {
		t.Fatalf("%v changes what it is given", s)
	}
	scribble(given)
	scribble(args)
	sample.ScribbleCode(c)
	return a, err
}

// scribble writes over all that was told, part by part: none of the parts shares its memory with another one.
func (a answer) scribble(t testing.TB) {
	t.Helper()
	apart(t, append([]api.Term{a.pid, a.event.Reason}, a.event.Args...))
	clear(a.event.Args[:cap(a.event.Args)])
}

// apart writes over terms, one behind the other: each stays as it is till it is written over itself.
func apart(t testing.TB, terms []api.Term) {
	t.Helper()
	var were []api.Term
	for _, x := range terms {
		were = append(were, term.Copy(x))
	}
	for i, x := range terms {
		if !sample.Same(x, were[i]) {
			t.Fatalf("parts of an answer share memory: %s was %s", show(x), show(were[i]))
		}
		sample.Scribble(x)
	}
}

// talker tells its node all that it has, and ends with it.
const talker = `-module(m). -export([f/1, g/1]).
	f(X) -> receive Y -> Z = X ! {X, Y}, display([X, Y | Z]), exit([X, Y, Z]) end.
	g(X) -> receive Y -> exit({X, Y}) after 5 -> exit([X]) end.`

// calls are some in which everything is handed in that may be.
func calls(t testing.TB) []step {
	t.Helper()
	c := source(t, talker)
	spawn := func(fun string) step {
		return step{call: "spawn", code: c, mod: "m", fun: fun, args: []api.Term{deep()}}
	}
	run := step{call: "run", budget: 9}
	return []step{
		spawn("f"), spawn("f"), spawn("g"), spawn("g"), spawn("f"), spawn("g"),
		{call: "register", word: "a", p: own(1)}, {call: "register", word: "b", p: own(5)}, {call: "trap", p: own(6), yes: true},
		run, run, run, run, run, run,
		{call: "put", p: own(1), x: deep()}, run, {call: "park", p: own(1)}, {call: "answer", p: own(1), x: deep()}, run, {call: "answer", p: own(1), x: deep()}, run,
		{call: "put", p: own(2), x: deep()}, run, {call: "fail", p: own(2), word: "throw", x: deep()}, run,
		{call: "put", p: own(5), x: deep()}, run, {call: "fail", p: own(5), word: "none", x: deep()}, {call: "fail", p: own(5), word: "exit", x: deep()}, run,
		{call: "exit", p: own(3), from: own(4), x: deep(), yes: true}, {call: "exit", p: own(4), from: own(3), x: word("kill")},
		{call: "exit", p: own(6), from: own(3), x: deep(), yes: true}, {call: "put", p: own(6), x: deep()}, run,
		{call: "exit", p: own(6), from: own(3), x: deep()}, {call: "put", p: own(6), x: deep()},
		{call: "wake", now: 3}, {call: "unregister", word: "b"}, {call: "turn"},
	}
}

// Rule 4: who writes over what was handed in, or over what was told, changes nothing in the table, whatever the call was.
func TestKeepsNothing(t *testing.T) {
	clean, dirty := open(t, ""), open(t, "")
	ended := 0
	for _, s := range calls(t) {
		want, wantErr := s.perform(clean)
		got, err := handed(t, dirty, s)
		if (err == nil) != (wantErr == nil) || !got.same(want) {
			t.Fatalf("%v: %s, %v, want %s, %v", s, got.tell(s.call), err, want.tell(s.call), wantErr)
		}
		got.scribble(t)
		if a, b := look(dirty), look(clean); a != b {
			t.Fatalf("%v: %s, want %s", s, a, b)
		}
		ended = len(clean.Ended())
	}
	if ended != 6 {
		t.Errorf("%d have ended: %s", ended, look(clean))
	}
}

// Rule 4: code is not kept: two processes run on as they were told to, whoever writes over it between their runs; one memory that is handed in twice is two.
func TestCodeIsNotKept(t *testing.T) {
	x, c, args := open(t, ""), sample.RoomyCode(source(t, talker)), sample.Roomy([]api.Term{deep(), deep()})
	for range 2 {
		_, err := x.Spawn(c, "m", "g", args[:1])
		done(t, "Spawn", err)
	}
	p, event, err := x.Run(9, 0)
	if err != nil || tellEvent(event) != "wait 5" || !sample.UntouchedCode(c, source(t, talker)) || !sample.Untouched(args, []api.Term{deep(), deep()}) {
		t.Fatalf("%s %s, %v", show(p), tellEvent(event), err)
	}
	sample.ScribbleCode(c)
	scribble(args)
	m := sample.Roomy([]api.Term{deep()})
	for id := range 2 {
		if ok, err := x.Put(own(id+1), m[0]); !ok || err != nil {
			t.Fatalf("%t, %v", ok, err)
		}
	}
	for range 2 {
		p, event, err := x.Run(9, 0)
		if err != nil || event.Kind != api.EvEnd || !sample.Same(event.Reason, tuple(deep(), deep())) {
			t.Fatalf("%s %s, %v", show(p), tellEvent(event), err)
		}
		sample.Scribble(event.Reason)
		scribble(m)
	}
	for _, d := range x.Ended() {
		if !sample.Same(d.Reason, tuple(deep(), deep())) {
			t.Error(show(d.Reason))
		}
	}
}

// terms are all that are told of the ended ones.
func deadTerms(x *proc.Table) []api.Term {
	var all []api.Term
	for _, d := range x.Ended() {
		all = append(all, d.Pid, d.Reason)
	}
	return all
}

// Rule 4: each list that is asked for is new memory, and so is each of its elements.
func TestListsApart(t *testing.T) {
	x := open(t, "wait; spin; quit a; ask; spin")
	reason := sample.Roomy([]api.Term{deep()})
	for _, s := range []step{
		{call: "put", p: own(1), x: deep()}, {call: "put", p: own(1), x: deep()}, {call: "trap", p: own(1), yes: true}, {call: "exit", p: own(1), from: own(2), x: reason[0]},
		{call: "exit", p: own(3), from: own(1), x: reason[0]}, {call: "exit", p: own(5), from: own(1), x: reason[0]}, {call: "register", word: "a", p: own(2)},
	} {
		_, err := s.perform(x)
		done(t, s.String(), err)
	}
	before := look(x)
	for what, ask := range map[string]func() []api.Term{
		"living": x.Living, "queue": x.Queue, "messages": func() []api.Term { return x.Messages(own(1)) }, "ended": func() []api.Term { return deadTerms(x) },
		"whereis": func() []api.Term {
			p, _ := x.Whereis("a")
			q, _ := x.Whereis("a")
			return []api.Term{p, q}
		},
	} {
		one, two := ask(), ask()
		if len(one) < 2 {
			t.Fatalf("%s: %s", what, showAll(one))
		}
		want := showAll(two)
		_ = append(one[:1], word("grown"))
		apart(t, append(one, two...))
		if three := showAll(ask()); three != want || look(x) != before {
			t.Errorf("%s: an answer shares memory: %s", what, three)
		}
	}
	one, two := x.Ended(), x.Ended()
	clear(one[:cap(one)])
	if len(two) != 2 || len(x.Ended()) != 2 || sample.IsZero(two[0].Pid) || sample.IsZero(x.Ended()[0].Pid) || !sample.Untouched(reason, []api.Term{deep()}) {
		t.Error("who has ended is told in the same memory twice")
	}
}

// Rule 4: to ask changes nothing of what is handed in.
func TestAsksOnly(t *testing.T) {
	x := ready(t)
	for _, p := range append(strangers()[:20], own(4), own(2)) {
		given := sample.Roomy([]api.Term{p})
		_ = lookAt(x, given, []string{"a"})
		if !sample.Untouched(given, []api.Term{p}) {
			t.Errorf("%s is changed", show(p))
		}
	}
	unchanged(t, x)
}

// Rule 4: what Spawn and Run tell of one process shares nothing.
func TestPidsApart(t *testing.T) {
	x := open(t, "")
	s := step{call: "spawn", code: source(t, standard), mod: "m", fun: "spin"}
	first, err := s.perform(x)
	done(t, "Spawn", err)
	var all []api.Term
	for range 3 {
		p, _, err := x.Run(1, 0)
		done(t, "Run", err)
		all = append(all, p)
	}
	all = append(all, first.pid)
	if want := strings.Repeat("#1 ", 3) + "#1"; showAll(all) != want {
		t.Fatal(showAll(all))
	}
	apart(t, all)
	if q := slices.Concat(x.Living(), x.Queue()); showAll(q) != "#1 #1" {
		t.Error(showAll(q))
	}
}

// Rule 4: empty lists are as none.
func TestEmptyLists(t *testing.T) {
	empty := func(x api.Term) api.Term {
		if x.Args == nil {
			x.Args = []api.Term{}
		}
		if x.Nums == nil {
			x.Nums = []uint32{}
		}
		return x
	}
	c := source(t, standard)
	x := open(t, "")
	for _, args := range [][]api.Term{nil, {}} {
		for _, consts := range [][]api.Term{nil, {}} {
			c := api.Code{Consts: consts, Mods: []api.Mod{{Name: "k", Exports: []int{}}}}
			_, err := x.Spawn(c, "k", "f", args)
			done(t, "Spawn", err)
		}
	}
	for id := range 4 {
		tells(t, x, step{call: "run", budget: 1}, show(own(id+1))+" end undef")
	}
	_, err := x.Spawn(c, "m", "quit", []api.Term{empty(tuple())})
	done(t, "Spawn", err)
	tells(t, x, step{call: "run", budget: 1}, "#5 end {}")
	_, err = x.Spawn(c, "m", "ask", nil)
	done(t, "Spawn", err)
	p := empty(own(6))
	done(t, "Register", x.Register("a", p))
	tells(t, x, step{call: "run", budget: 1}, "#6 nodes()")
	tells(t, x, step{call: "put", p: p, x: empty(tuple())}, "true")
	tells(t, x, step{call: "trap", p: p, yes: true}, "false")
	tells(t, x, step{call: "exit", p: p, from: empty(own(1)), x: empty(word("kill")), yes: true}, "message")
	done(t, "Park", x.Park(p))
	done(t, "Answer", x.Answer(p, empty(null())))
	play(t, x, "messages #6 -> {} {'EXIT',<n@h.3.1.0>,kill}\n run 10 0 -> #6 end {answer,[]}\n ended -> #1 undef, #2 undef, #3 undef, #4 undef, #5 {}, #6 {answer,[]}")
	_, err = x.Spawn(c, "m", "spin", nil)
	done(t, "Spawn", err)
	tells(t, x, step{call: "exit", p: empty(own(7)), from: empty(own(7)), x: empty(word("normal"))}, "ended")
	play(t, x, "spawn spin -> #8\n exit #8 #7 normal link -> none")
}
