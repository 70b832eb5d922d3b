package vm_test

import (
	"fmt"
	"strings"
	"testing"

	"heddle/api"
	"heddle/bif"
	"heddle/code"
	"heddle/sample"
)

// some is constants of many tests: 0 a, 1 b, 2 true, 3 false, 4 and 5 of them together, 6 [1,2|3], 7 [1], 8 [], 9 {}, 10 1.
const some = "a b true false {a,b} {a,{b}} [1,2|3] [1] [] {} 1"

// ends holds how functions made by hand end, each with constants of their own or with those of some.
func ends(t *testing.T, consts string, rows ...[2]string) {
	t.Helper()
	for _, row := range rows {
		v := hand(t, consts, strings.Split(row[0], " | ")...)
		e, err := v.Run(1000, 0)
		if got := tell(e); err != nil || got != "end "+row[1] {
			t.Errorf("%s: %s, %v, want end %s", row[0], got, err, row[1])
		}
	}
}

// Chapter 15: what puts terms, takes them away, keeps them in locals.
func TestTerms(t *testing.T) {
	ends(t, some, [][2]string{
		{"f 0 0: const 0; raise 1", "a 0"},
		{"f 0 0: const 5; raise 1", "{a,{b}} 0"},
		{"f 0 2: const 0; store 1; const 1; store 0; load 1; load 0; load 1; tuple 3; raise 1", "{a,b,a} 0"},
		{"f 0 1: const 0; store 0; const 1; store 0; load 0; raise 1", "b 0"},
		{"f 0 0: const 0; const 1; pop; raise 1", "a 0"},
		{"f 0 0: const 0; const 1; dup; tuple 3; raise 1", "{a,b,b} 0"},
		{"f 0 0: tuple 0; raise 1", "{} 0"},
		{"f 0 0: const 0; const 1; const 4; tuple 1; tuple 2; raise 1", "{b,{{a,b}}} 0"},
		{"f 0 0: const 0; const 1; const 2; list 1; tuple 2; raise 1", "{a,[b|true]} 0"},
		{"f 0 0: const 0; const 1; const 2; list 2; raise 1", "[a,b|true] 0"},
		{"f 0 0: const 0; const 1; const 8; list 2; raise 1", "[a,b] 0"},
		{"f 0 0: const 0; const 1; const 6; list 2; raise 1", "[a,b,1,2|3] 0"},
		{"f 0 0: const 0; const 7; list 1; raise 1", "[a,1] 0"},
		{"f 0 0: const 7; const 7; list 1; raise 1", "[[1],1] 0"},
		{"f 0 0: const 7; const 9; list 1; raise 1", "[[1]|{}] 0"},
		// What is made of terms changes none of them.
		{"f 0 1: const 0; const 7; list 1; dup; store 0; const 1; load 0; list 1; const 2; load 0; list 1; load 0; const 7; tuple 4; raise 1", "{[b,a,1],[true,a,1],[a,1],[1]} 0"},
		{"f 0 1: const 6; dup; cons 10; dup; store 0; const 2; load 0; tuple 3; tuple 3; raise 1; raise 1", "{[1,2|3],[2|3],{1,true,1}} 0"},
	}...)
}

// Chapter 15: what is made of terms and is no term raises system_limit.
func TestNoTerms(t *testing.T) {
	for _, x := range []struct {
		body string
		arg  api.Term
		want string
	}{
		{"load 0; tuple 1", tuple(sample.Ones(4094)...), "{}"},
		{"load 0; tuple 1", tuple(sample.Ones(4095)...), "system_limit"},
		{"load 0; dup; tuple 2", tuple(sample.Ones(2046)...), "{}"},
		{"load 0; dup; tuple 2", tuple(sample.Ones(2047)...), "system_limit"},
		{"load 0; tuple 1", sample.Chain(254, num(1)), "{}"},
		{"load 0; tuple 1", sample.Chain(255, num(1)), "system_limit"},
		{"load 0; const 1; list 1", sample.Chain(254, num(1)), "{}"},
		{"load 0; const 1; list 1", sample.Chain(255, num(1)), "system_limit"},
		{"const 1; load 0; list 1", sample.Chain(254, num(1)), "{}"},
		{"const 1; load 0; list 1", sample.Chain(255, num(1)), "system_limit"},
		{"const 1; load 0; list 1", list(sample.Ones(4094)...), "{}"},
		{"const 1; load 0; list 1", list(sample.Ones(4095)...), "system_limit"},
		{"const 1; dup; load 0; list 2", list(sample.Ones(4093)...), "{}"},
		{"const 1; dup; load 0; list 2", list(sample.Ones(4094)...), "system_limit"},
		{"const 1; load 0; list 1", list(append(sample.Ones(4000), tuple(sample.Ones(93)...))...), "{}"},
		{"const 1; load 0; list 1", list(append(sample.Ones(4000), tuple(sample.Ones(94)...))...), "system_limit"},
	} {
		handler := strings.Count(x.body, ";") + 6
		c := made(t, "{} []", fmt.Sprintf("f 1 1: try %d; %s; done; pop; const 0; raise 1; tuple 2; raise 1", handler, x.body))
		want := "end " + x.want + " 0"
		if x.want == "system_limit" {
			want = "end {system_limit,error} 0"
		}
		runs(t, start(t, c, x.arg), 1, 0, want)
	}
}

// calls is code of f with so many arguments that does something with them; what comes of it is the reason of an exit, what is raised that of a throw: {Reason, Class}.
func calls(arity int, in api.Insn) api.Code {
	f := api.Fun{Name: "f", Arity: arity, Locals: arity, Code: []api.Insn{{Op: api.CTry, A: arity + 4}}}
	for i := range arity {
		f.Code = append(f.Code, api.Insn{Op: api.CLoad, A: i})
	}
	f.Code = append(f.Code, in, api.Insn{Op: api.CDone}, api.Insn{Op: api.CRaise, A: 1}, api.Insn{Op: api.CTuple, A: 2}, api.Insn{Op: api.CRaise, A: 2})
	return api.Code{Mods: []api.Mod{{Name: "m", Exports: []int{0}, Funs: []api.Fun{f}}}}
}

// Chapter 15: CBif of every function, with arguments of all kinds: package bif's answer, or an error with its reason.
func TestBifs(t *testing.T) {
	values := []api.Term{num(0), num(2), num(-7), num(api.MaxInt), word("true"), word("a"), tuple(), tuple(num(1), word("b")), null(), list(num(49), null()), list(num(1), num(2)), who().Self, sample.Ref("m@h", 1, 1, 2, 3), list(sample.Ones(4095)...)}
	raisedOf := map[string]int{}
	for place, b := range bif.All() {
		c := calls(b.Arity, api.Insn{Op: api.CBif, A: place})
		for n := range 14 * 14 * 3 {
			args := []api.Term{values[n%14], values[n/14%14], values[n/196*5]}[:b.Arity]
			if b.Arity < 3 && n >= 196 || b.Arity < 2 && n >= 14 {
				break
			}
			answer, err := bif.Call(b.Name, args...)
			want := answer
			if err != nil {
				reason, _ := bif.Reason(err)
				want = tuple(word("nocatch"), tuple(reason, word("error")))
				raisedOf[reason.Text]++
			}
			e, err := start(t, c, args...).Run(1, 0)
			if err != nil || !sample.SameEvent(e, api.Event{Kind: api.EvEnd, Reason: want}) {
				t.Fatalf("%s of %s: %s, %v, want %s", b.Name, showAll(args), tell(e), err, show(want))
			}
		}
	}
	if raisedOf["badarith"] == 0 || raisedOf["badarg"] == 0 || raisedOf["system_limit"] == 0 {
		t.Error(raisedOf)
	}
}

// Chapter 15: calls: arguments, locals and stacks are each frame's own, and the answer is put.
func TestCalls(t *testing.T) {
	ends(t, "a b {m,g} {m,h} {k,g} {m,x} [] 1", [][2]string{
		{"f 0 1: const 0; store 0; const 1; const 0; const 1; call 1; load 0; tuple 3; raise 1 | g 2 3: load 1; load 0; tuple 2; store 0; const 7; store 2; load 0; return", "{b,{b,a},a} 1"},
		{"f 0 1: const 0; store 0; const 1; const 0; const 1; remote 2 2; load 0; tuple 3; raise 1 | g 2 3: load 1; load 0; tuple 2; return", "{b,{b,a},a} 1"},
		{"f 0 0: call 1; raise 1 | g 0 0: const 0; const 1; tail 2 | h 2 2: load 1; load 0; tuple 2; return", "{b,a} 2"},
		{"f 0 0: call 1; const 7; tuple 2; raise 1 | g 0 0: const 7; const 7; const 0; const 1; tail 2 | h 2 2: load 1; load 0; tuple 2; return", "{{b,a},1} 2"},
		{"f 0 0: call 1; const 7; tuple 2; raise 1 | g 0 0: const 0; const 1; leave 3 2 | h 2 2: load 1; load 0; tuple 2; return", "{{b,a},1} 2"},
		{"f 0 0: call 1; const 7; tuple 2; raise 1 | g 0 0: const 7; const 0; const 1; leave 3 2 | h 2 2: load 1; load 0; tuple 2; return", "{{b,a},1} 2"},
		{"f 0 0: const 0; tail 1 | g 1 1: const 1; load 0; tuple 2; raise 1", "{b,a} 1"},
		{"f 0 0: const 0; leave 2 1 | g 1 1: const 1; load 0; tuple 2; raise 1", "{b,a} 1"},
		{"f 0 0: const 0; tail 1 | g 1 1: load 0; return", "normal 1"},
		{"f 0 0: const 0; leave 2 1 | g 1 1: load 0; return", "normal 1"},
		{"f 0 0: const 0; return", "normal 0"},
		// Functions of one name are told apart by how many arguments they take.
		{"f 0 0: remote 2 0; const 7; remote 2 1; tuple 2; raise 1 | g 0 0: const 0; return | g 1 1: const 1; return", "{a,b} 2"},
		// None is there: no such module, function, number of arguments.
		{"f 0 0: remote 4 0; return | g 0 0: const 0; return", "undef 1"},
		{"f 0 0: leave 4 0 | g 0 0: const 0; return", "undef 1"},
		{"f 0 0: remote 5 0; return | g 0 0: const 0; return", "undef 1"},
		{"f 0 0: const 0; remote 2 1; return | g 0 0: const 0; return", "undef 1"},
		{"f 0 0: leave 2 0 | g 1 1: const 0; return", "undef 1"},
		{"f 0 0: const 0; try 5; const 1; remote 5 0; raise 1; tuple 3; raise 1", "{a,undef,error} 1"},
	}...)
}

// Chapter 15: a function that is not exported is called by CCall and CTail, but not by CRemote and CLeave.
func TestNotExported(t *testing.T) {
	for in, want := range map[string]string{"call 1; raise 1": "a 1", "tail 1": "normal 1", "remote 1 0; raise 1": "undef 1", "leave 1 0": "undef 1"} {
		c := made(t, "a {m,g}", "f 0 0: "+in, "g 0 0: const 0; return")
		c.Mods[0].Exports = []int{0}
		runs(t, start(t, c), 9, 0, "end "+want)
	}
}

// Chapter 15: CRemote and CLeave of other modules, whose calls are of their own functions and of the same constants.
func TestOtherModules(t *testing.T) {
	for _, call := range []string{"remote 1 1\n raise 1", "leave 1 1"} {
		c, err := code.Read("const a\nconst {k,p}\nconst {m,h}\nmodule m\nexport 0 2\nfun f 0 0\n const 0\n " + call + "\nfun g 1 1\n const 0\n raise 0\nfun h 1 1\n load 0\n raise 1\nmodule k\nexport 1\nfun q 1 1\n const 0\n load 0\n tuple 2\n leave 2 1\nfun p 1 1\n load 0\n tuple 1\n tail 0\n")
		done(t, "Read", err)
		runs(t, start(t, c), 9, 0, "end {a,{a}} 3")
	}
}

// Chapter 15: which way instructions go on that choose one, all forward: none of them is counted.
func TestWays(t *testing.T) {
	branch := "f 0 0: const %d; branch 4 %d; const 0; raise 1; const 1; raise 1"
	is := "f 0 0: const %d; is %d 4; const 0; raise 1; const 1; raise 1"
	same := "f 0 0: const %d; const %d; same 5; const 0; raise 1; const 1; raise 1"
	both := func(format string, a, b int, want string) [2]string {
		return [2]string{fmt.Sprintf(format, a, b), want}
	}
	ends(t, some+" [1,2|3] {m,f}", [][2]string{
		{"f 0 0: jump 2; raise 0; const 1; raise 1", "b 0"},
		both(branch, 2, 0, "a 0"), both(branch, 2, 1, "a 0"), both(branch, 3, 0, "b 0"), both(branch, 3, 1, "b 0"),
		both(branch, 0, 0, "b 0"), both(branch, 0, 1, "badarg 0"), both(branch, 10, 0, "b 0"), both(branch, 10, 1, "badarg 0"), both(branch, 9, 1, "badarg 0"),
		both(is, 0, 0, "a 0"), both(is, 0, 1, "b 0"), both(is, 6, 11, "a 0"), both(is, 6, 7, "b 0"), both(is, 4, 5, "b 0"), both(is, 8, 9, "b 0"), both(is, 8, 8, "a 0"),
		both(same, 0, 0, "a 0"), both(same, 0, 1, "b 0"), both(same, 6, 11, "a 0"), both(same, 11, 6, "a 0"), both(same, 7, 8, "b 0"), both(same, 4, 12, "b 0"),
		// What is behind them on the stack stays.
		{"f 0 0: const 10; const 0; branch 5 0; tuple 1; raise 1; tuple 1; tuple 1; raise 1", "{{1}} 0"},
		{"f 0 0: const 10; const 0; is 0 5; tuple 1; raise 1; tuple 1; tuple 1; raise 1", "{1} 0"},
		{"f 0 0: const 10; const 0; const 1; same 6; tuple 1; raise 1; tuple 1; tuple 1; raise 1", "{{1}} 0"},
		// CParts: the first element on top; other numbers of elements, other kinds.
		{"f 0 0: const 4; parts 2 4; tuple 2; raise 1; const 0; raise 1", "{b,a} 0"},
		{"f 0 0: const 5; parts 2 4; tuple 2; raise 1; const 0; raise 1", "{{b},a} 0"},
		{"f 0 0: const 10; const 9; parts 0 4; raise 1; const 0; raise 0", "1 0"},
		{"f 0 0: const 10; const 4; parts 3 5; tuple 4; raise 1; tuple 1; raise 1", "{1} 0"},
		{"f 0 0: const 10; const 4; parts 1 5; tuple 2; raise 1; tuple 1; raise 1", "{1} 0"},
		{"f 0 0: const 10; const 4; parts 0 5; tuple 1; raise 0; tuple 1; raise 1", "{1} 0"},
		{"f 0 0: const 10; const 6; parts 3 5; tuple 4; raise 1; tuple 1; raise 1", "{1} 0"},
		{"f 0 0: const 10; const 8; parts 0 5; tuple 1; raise 0; tuple 1; raise 1", "{1} 0"},
		{"f 0 0: const 10; const 0; parts 0 5; tuple 1; raise 0; tuple 1; raise 1", "{1} 0"},
		// CCons: the head on top of the tail; the empty list is none with a head.
		{"f 0 0: const 6; cons 4; tuple 2; raise 1; const 0; raise 1", "{[2|3],1} 0"},
		{"f 0 0: const 7; cons 4; tuple 2; raise 1; const 0; raise 1", "{[],1} 0"},
		{"f 0 0: const 6; cons 7; pop; cons 7; tuple 2; raise 1; raise 0; const 0; raise 1", "{3,2} 0"},
		{"f 0 0: const 10; const 8; cons 5; tuple 3; raise 1; tuple 1; raise 1", "{1} 0"},
		{"f 0 0: const 10; const 4; cons 5; tuple 3; raise 1; tuple 1; raise 1", "{1} 0"},
		{"f 0 0: const 10; const 0; cons 5; tuple 3; raise 1; tuple 1; raise 1", "{1} 0"},
	}...)
}

// P18.2: instructions that go on elsewhere are counted if that is not behind them, whichever way they go.
func TestBack(t *testing.T) {
	// Round and round: with each budget as many are counted.
	for _, body := range []string{
		"jump 0", "const 0; pop; jump 0", "const 0; pop; jump 2", "const 3; branch 0 0; const 0; return", "const 3; branch 0 1; const 0; return", "const 0; branch 0 0; const 0; return",
		"const 0; is 1 0; const 0; return", "const 0; parts 0 0; const 0; return", "const 0; cons 0; pop; return", "const 0; const 1; same 0; const 0; return",
		"peek 0; return", "next 0", "const 0; pop; next 0", "next 1; const 0; pop; next 0",
		"const 0; const 0; pop; pop; try 2; const 0; raise 0", "guard 0; const 0; raise 0", "const 0; pop; guard 0; const 0; raise 2", "guard 3; const 0; raise 2; jump 0",
		"tail 0", "const 0; const 1; tail 0", "leave 11 0", "act 0; pop; jump 0", "call 1; pop; jump 0",
	} {
		v := hand(t, some+" {m,f}", "f 0 1: "+body, "g 0 0: const 0; return")
		calls := 0
		for _, budget := range []int{1, 2, 3, 100, 1} {
			runs(t, v, budget, 0, fmt.Sprintf("yield %d", budget))
			calls += budget
		}
		play(t, v, fmt.Sprintf("is: ready %d 1 []", calls))
	}
	// They are counted also where they go on behind them.
	ends(t, some, [][2]string{
		{"f 0 0: const 2; branch 0 0; const 1; raise 1", "b 1"},
		{"f 0 0: const 2; branch 0 1; const 1; raise 1", "b 1"},
		{"f 0 0: const 0; is 0 0; const 1; raise 1", "b 1"},
		{"f 0 0: const 4; parts 2 0; tuple 2; raise 1", "{b,a} 1"},
		{"f 0 0: const 7; cons 0; tuple 2; raise 1", "{[],1} 1"},
		{"f 0 0: const 0; const 0; same 0; const 1; raise 1", "b 1"},
		{"f 0 0: const 0; const 0; pop; pop; try 2; done; const 1; raise 1", "b 1"},
		{"f 0 0: guard 0; done; const 1; raise 1", "b 1"},
		// Those of no other instruction are: not what says how many, not what a CWait waits for.
		{"f 0 0: const 0; const 0; const 0; tuple 3; tuple 1; raise 1", "{{a,a,a}} 0"},
		{"f 0 1: const 0; store 0; load 0; raise 1", "a 0"},
		{"f 0 0: const 3; const 3; bif 3; raise 1", "badarith 0"},
		{"f 0 0: const 0; raise 0", "a 0"},
	}...)
	v := hand(t, some, "f 0 0: peek 0; raise 1")
	play(t, v, "put b", "run 9 0: end b 1")
	v = hand(t, "0 infinity a", "f 0 0: const 0; wait 0; const 1; wait 2; const 2; return")
	play(t, v, "run 1 0: wait 0", "put 1", "run 1 0: wait 0", "run 1 0: wait 0", "is: waiting 0 1 [1]")
}

// P18.2: CAct of self and node is answered at once, CSend and all other acts ask, with their arguments in order.
func TestActs(t *testing.T) {
	values := []api.Term{tuple(num(1), who().Self), word("b"), list(num(1), num(2)), sample.Ref("m@h", 1, 1, 2, 3)}
	for place, a := range code.Acts() {
		c := calls(a.Arity, api.Insn{Op: api.CAct, A: place})
		v := start(t, c, values[:a.Arity]...)
		switch a.Name + fmt.Sprint(a.Arity) {
		case "self0":
			play(t, v, "run 9 0: end <n@h.1.5.0> 1")
			continue
		case "node0":
			play(t, v, "run 9 0: end n@h 1")
			continue
		}
		play(t, v, "run 9 0: "+a.Name+"("+showAll(values[:a.Arity])+") 1", "is: asked 1 1 []", "run 9 0 !360", "resume {x}", "is: ready 1 1 []", "run 9 0: end {x} 0")
		v = start(t, c, values[:a.Arity]...)
		play(t, v, "run 1 0: "+a.Name+"("+showAll(values[:a.Arity])+") 1", "raise exit {x}", "is: ready 1 1 []", "run 9 0: end {nocatch,{{x},exit}} 0")
	}
	v := hand(t, some, "f 0 0: const 10; const 4; const 1; send; tuple 2; raise 1")
	play(t, v, "run 9 0: !({a,b},b) 1", "is: asked 1 1 []", "resume c", "run 9 0: end {1,c} 0")
}
