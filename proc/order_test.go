package proc_test

import (
	"errors"
	"testing"

	"heddle/api"
	"heddle/proc"
	"heddle/sample"
)

// choice is an argument's value and which chain of faults it brings; none, if it brings none.
type choice[T any] struct {
	value T
	chain []api.Fault
}

// one is a choice that brings a fault of this layer alone.
func one[T any](value T, code api.Errno) choice[T] {
	return choice[T]{value, []api.Fault{fault(code)}}
}

// Of the table that ready makes, at the time 10: the first one is asked and the first of the queue, the second one waits, the third one is asked and parked, the fourth one yields and has a name, the fifth one has ended.
func ready(t testing.TB) *proc.Table {
	t.Helper()
	x := settled(t, "ask; wait 50; ask; spin; spin")
	play(t, x, "park #3 ->\n register a #4 ->\n trap #2 yes -> false\n exit #5 #1 boom link -> ended\n wake 10 -> 0")
	return x
}

// unchanged: all that is not to be seen of it is as ready made it, too.
func unchanged(t *testing.T, x *proc.Table) {
	t.Helper()
	play(t, x, `
		wake 10 -> 0
		queue -> #1 #4
		run 10 10 -> !360
		answer #1 x ->
		run 10 10 -> #1 end {answer,x}
		run 10 10 -> #4 yield
		put #2 m -> true
		queue -> #4 #2
		fail #3 exit y ->
		queue -> #4 #2 #3
		exit #2 #1 boom link -> message
		turn ->
		run 10 10 -> #2 wait 50
		run 10 10 -> #3 end y
		spawn spin -> #6
		wake 50 -> 1
		exit #2 #1 kill nolink -> ended
		register a #6 -> !401
		exit #4 #1 boom link -> ended
		register a #6 ->
		ended -> #5 boom, #1 {answer,x}, #3 y, #2 killed, #4 boom
	`)
}

// holds: a call brings the first of those chains that is one, and then changes nothing.
func holds(t *testing.T, s step, chains ...[]api.Fault) {
	t.Helper()
	x := ready(t)
	for _, chain := range chains {
		if len(chain) > 0 {
			refused(t, x, s, chain...)
			unchanged(t, x)
			return
		}
	}
	_, err := s.perform(x)
	done(t, s.String(), err)
}

// wrongTerms are choices of a term; package vm's fault lies between, where it is said.
func wrongTerms(inVM bool) []choice[api.Term] {
	all := []choice[api.Term]{{value: own(9)}}
	for _, n := range sample.NoTerms() {
		switch n.Chain[0].Code {
		case api.ErrRange, api.ErrUTF, api.ErrMany:
			chain := under(n.Chain...)
			if inVM {
				chain = vmFault(n.Chain...)
			}
			all = append(all, choice[api.Term]{n.Value, chain})
		}
	}
	return all
}

// askedOrNot are processes that want an answer, and such as do not.
func askedOrNot(chain ...api.Fault) []choice[api.Term] {
	all := []choice[api.Term]{{value: own(1)}, {value: own(3)}, {own(2), chain}, {own(4), chain}}
	return append(all, nobodies()...)
}

func nobodies() []choice[api.Term] {
	return []choice[api.Term]{one(own(5), api.ErrProc), one(own(6), api.ErrProc), one(pid("n@h", 2, 1, 0), api.ErrProc), one(api.Term{}, api.ErrProc)}
}

func somebody(id int) []choice[api.Term] {
	return append(nobodies(), choice[api.Term]{value: own(id)})
}

// Rule 2: of several errors the first one; nothing is changed.
func TestWhichErrorOfAnswers(t *testing.T) {
	vmAsked, vmArg := under(api.Fault{Layer: "vm", Code: api.ErrAsked}), under(api.Fault{Layer: "vm", Code: api.ErrArg})
	for _, p := range askedOrNot(fault(api.ErrAsked)) {
		holds(t, step{call: "park", p: p.value}, p.chain)
	}
	for _, p := range askedOrNot(vmAsked...) {
		for _, x := range wrongTerms(true) {
			holds(t, step{call: "answer", p: p.value, x: x.value}, p.chain, x.chain)
			for _, class := range []choice[string]{{value: "exit"}, {"none", vmArg}, {"", vmArg}} {
				holds(t, step{call: "fail", p: p.value, word: class.value, x: x.value}, p.chain, class.chain, x.chain)
			}
		}
	}
}

func TestWhichErrorOfSignals(t *testing.T) {
	for _, p := range somebody(2) {
		holds(t, step{call: "trap", p: p.value, yes: true}, p.chain)
		for _, from := range append(wrongTerms(false), choice[api.Term]{value: word("a")}, choice[api.Term]{value: ref("n@h", 3, 1, 0, 0)}) {
			for _, reason := range wrongTerms(false) {
				var noPid []api.Fault
				if from.value.Kind != api.KPid {
					noPid = []api.Fault{fault(api.ErrArg)}
				}
				for _, link := range []bool{false, true} {
					holds(t, step{call: "exit", p: p.value, from: from.value, x: reason.value, yes: link}, p.chain, from.chain, reason.chain, noPid)
				}
			}
		}
	}
	for _, m := range wrongTerms(false) {
		holds(t, step{call: "put", p: own(2), x: m.value}, m.chain)
		for _, p := range nobodies() {
			x := ready(t)
			tells(t, x, step{call: "put", p: p.value, x: m.value}, "false")
			unchanged(t, x)
		}
	}
}

func TestWhichErrorOfNames(t *testing.T) {
	names := []choice[string]{{value: "b"}, one("a", api.ErrNamed), one("", api.ErrArg), one("undefined", api.ErrArg), one("\xff", api.ErrArg)}
	for _, name := range names {
		for _, p := range somebody(1) {
			holds(t, step{call: "register", word: name.value, p: p.value}, p.chain, name.chain)
		}
		// The fourth one has a name.
		holds(t, step{call: "register", word: name.value, p: own(4)}, name.chain, []api.Fault{fault(api.ErrNamed)})
		if name.value != "a" {
			holds(t, step{call: "unregister", word: name.value}, []api.Fault{fault(api.ErrNamed)})
		}
	}
	holds(t, step{call: "unregister", word: "a"})
}

func TestWhichErrorOfRuns(t *testing.T) {
	nows := []choice[int]{{value: 10}, {value: 20}, one(9, api.ErrRange), one(-1, api.ErrRange), one(api.MaxClock+1, api.ErrRange)}
	vmArg, vmAsked := under(api.Fault{Layer: "vm", Code: api.ErrArg}), under(api.Fault{Layer: "vm", Code: api.ErrAsked})
	for _, now := range nows {
		for _, budget := range []choice[int]{{value: 1}, {0, vmArg}, {-1, vmArg}, {api.MaxBudget + 1, vmArg}} {
			s := step{call: "run", budget: budget.value, now: now.value}
			holds(t, s, now.chain, budget.chain, vmAsked)
			x := settled(t, "wait 50")
			tells(t, x, step{call: "wake", now: 10}, "0")
			if now.chain != nil {
				refused(t, x, s, now.chain...)
			} else {
				refused(t, x, s, fault(api.ErrNone))
			}
		}
		holds(t, step{call: "wake", now: now.value}, now.chain)
	}
	holds(t, step{call: "turn"})
}

func TestWhichErrorOfSpawn(t *testing.T) {
	good := source(t, standard)
	flow := sample.Under("vm", 0, []api.Fault{{Layer: "code", Code: api.ErrFlow}})
	arity := under(api.Fault{Layer: "vm", Code: api.ErrArity})
	for _, c := range []choice[api.Code]{{value: good}, {api.Code{Mods: []api.Mod{{Name: "m", Funs: []api.Fun{{Name: "f"}}}}}, under(flow...)}} {
		for _, args := range []choice[[]api.Term]{
			{value: nil}, {value: sample.Ones(255)}, {sample.Ones(256), arity}, {make([]api.Term, 256), arity},
			{[]api.Term{num(1), {}, word("\xff")}, sample.Under("proc", 1, sample.Under("vm", 1, []api.Fault{{Layer: "term", Code: api.ErrTerm}}))},
		} {
			for _, fun := range []string{"spin", "nothing"} {
				holds(t, step{call: "spawn", code: c.value, mod: "m", fun: fun, args: args.value}, c.chain, args.chain)
			}
		}
	}
}

// every does each call with all kinds of arguments, wrong ones among them.
func every(t *testing.T, do func(s step)) {
	values := []api.Term{own(1), own(2), {}, word("a"), word("\xff"), sample.Itself()}
	for _, c := range []api.Code{source(t, standard), {}, {Mods: []api.Mod{{Name: "\xff"}}}} {
		for _, args := range [][]api.Term{nil, {num(1)}, {{}}, make([]api.Term, 300)} {
			do(step{call: "spawn", code: c, mod: "m", fun: "spin", args: args})
		}
	}
	for _, now := range append(noClocks, 10, 11, api.MaxClock) {
		do(step{call: "wake", now: now})
		for _, budget := range []int{1, 0, -1, api.MaxBudget, api.MaxBudget + 1} {
			do(step{call: "run", budget: budget, now: now})
		}
	}
	do(step{call: "turn"})
	for _, name := range []string{"a", "b", "", "undefined", "\xff"} {
		do(step{call: "unregister", word: name})
		for _, p := range values {
			do(step{call: "register", word: name, p: p})
		}
	}
	for _, p := range values {
		do(step{call: "park", p: p})
		for _, yes := range []bool{false, true} {
			do(step{call: "trap", p: p, yes: yes})
		}
		for _, x := range values {
			do(step{call: "answer", p: p, x: x})
			do(step{call: "put", p: p, x: x})
			for _, class := range []string{"exit", "error", "none", ""} {
				do(step{call: "fail", p: p, word: class, x: x})
			}
			for _, from := range values {
				do(step{call: "exit", p: p, from: from, x: x})
				do(step{call: "exit", p: p, from: from, x: x, yes: true})
			}
		}
	}
}

// nobody holds that every call refuses with ErrZero, whatever else applies, or tells nothing.
func nobody(t *testing.T, what string, x *proc.Table) {
	t.Helper()
	every(t, func(s step) {
		t.Helper()
		a, err := s.perform(x)
		if !a.same(answer{}) || !sample.IsFault(err, fault(api.ErrZero)) {
			t.Fatalf("%s: %v: %+v, %v", what, s, a, err)
		}
	})
	want := "living: \nqueue: \nended: \n#1: - false false - false []\n\"a\": - false\n"
	if got := lookAt(x, []api.Term{own(1)}, []string{"a"}); got != want {
		t.Errorf("%s: %s", what, got)
	}
}

// Rule 3: of a table that is nil, that was made or copied by hand.
func TestNobodysTable(t *testing.T) {
	nobody(t, "nil", nil)
	nobody(t, "new", new(proc.Table))
	nobody(t, "literal", &proc.Table{})
	for _, x := range []*proc.Table{open(t, ""), ready(t)} {
		before := look(x)
		copied := *x
		nobody(t, "copied", &copied)
		if after := look(x); after != before {
			t.Errorf("%s was %s", after, before)
		}
	}
}

// A table over which another one is laid by hand is nobody's either.
func TestOverwrittenTable(t *testing.T) {
	a, b := ready(t), ready(t)
	*a = *b
	nobody(t, "overwritten", a)
	unchanged(t, b)
	*b = proc.Table{}
	nobody(t, "emptied by hand", b)
}

// Rule 1: no call panics, whatever it is given.
func TestEveryCall(t *testing.T) {
	for _, x := range []*proc.Table{open(t, ""), ready(t), settled(t, "wait 5; ask; spin")} {
		every(t, func(s step) {
			a, err := s.perform(x)
			var outer *api.Fault
			if err != nil && (!a.same(answer{}) || !errors.As(err, &outer) || outer.Layer != "proc") {
				t.Fatalf("%v: %+v, %v", s, a, err)
			}
		})
	}
}

// Errors are told by the numbers that are asked for: the outermost fault is this layer's, the innermost number that of the layer where it began.
func TestErrors(t *testing.T) {
	x := ready(t)
	_, err := x.Put(own(2), tuple(word("\xff")))
	var outer *api.Fault
	if !errors.As(err, &outer) || outer.Layer != "proc" || outer.Code != api.ErrUTF || !errors.Is(err, api.ErrUTF) || !sample.IsFault(outer.Under, api.Fault{Layer: "term", At: 1, Code: api.ErrUTF}, api.Fault{Layer: "atom", Code: api.ErrUTF}) {
		t.Error(err)
	}
	if err := x.Unregister("nobody"); !errors.Is(err, api.ErrNamed) {
		t.Error(err)
	}
}
