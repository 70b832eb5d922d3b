package vm_test

import (
	"fmt"
	"testing"

	"heddle/api"
	"heddle/sample"
)

// P18.2: a raise that no handler takes ends the process: with the reason of error and exit, with {nocatch, T} of throw.
func TestRaiseEnds(t *testing.T) {
	for n, class := range []string{"error", "exit", "throw"} {
		for _, reason := range []string{"x", "normal", "{a,[1,2]}", "<m@h.2.3.4>"} {
			want := "end " + reason
			if class == "throw" {
				want = "end {nocatch," + reason + "}"
			}
			play(t, hand(t, reason, fmt.Sprintf("f 0 0: const 0; raise %d", n)), "run 1 0: "+want+" 0", "is: ended 0 0 []")
			play(t, text(t, "f(X) -> g(X). g(X) -> [h(X)]. h(X) -> "+class+"(X).", reason), "is: ready 0 1 []", "run 9 0: "+want+" 2", "is: ended 2 0 []")
			// By Raise.
			v := text(t, "f() -> g(). g() -> [nodes()].")
			play(t, v, "run 9 0: nodes() 2", "raise "+class+" "+reason, "is: ready 2 1 []", "run 1 0: "+want+" 0", "is: ended 2 0 []")
		}
	}
}

// P18.2: {nocatch, T} that is no term: system_limit.
func TestNoCatch(t *testing.T) {
	for _, x := range []struct {
		t    api.Term
		fits bool
	}{
		{tuple(sample.Ones(4093)...), true}, {tuple(sample.Ones(4094)...), false}, {tuple(sample.Ones(4095)...), false},
		{sample.Chain(254, num(1)), true}, {sample.Chain(255, num(1)), false},
	} {
		want := word("system_limit")
		if x.fits {
			want = tuple(word("nocatch"), x.t)
		}
		asked := text(t, "f() -> nodes().")
		play(t, asked, "run 1 0: nodes() 1")
		done(t, "Raise", asked.Raise("throw", x.t))
		for n, v := range []interface {
			Run(budget, now int) (api.Event, error)
		}{start(t, source(t, "f(X) -> throw(X).", 1), x.t), asked} {
			e, err := v.Run(1, 0)
			if err != nil || !sample.SameEvent(e, api.Event{Kind: api.EvEnd, Reason: want}) {
				t.Errorf("%d: throw(%s): %s, %v", n, show(x.t), tell(e), err)
			}
		}
		// Of the other classes every reason is one.
		e, err := start(t, source(t, "f(X) -> exit(X).", 1), x.t).Run(1, 0)
		if err != nil || !sample.SameEvent(e, api.Event{Kind: api.EvEnd, Reason: x.t}) {
			t.Errorf("exit(%s): %s, %v", show(x.t), tell(e), err)
		}
	}
}

// Chapter 15: what is raised goes on at the last handler: the stack is cut to its height, the reason is put and on top the class; the handler goes.
func TestHandlers(t *testing.T) {
	ends(t, "a b c {m,g}", [][2]string{
		{"f 0 0: try 3; const 0; raise 0; tuple 2; raise 1", "{a,error} 0"},
		{"f 0 0: try 3; const 0; raise 1; tuple 2; raise 1", "{a,exit} 0"},
		{"f 0 0: try 3; const 0; raise 2; tuple 2; raise 1", "{a,throw} 0"},
		// The stack below the handler's height stays, what is above it goes.
		{"f 0 0: const 1; const 2; try 6; const 0; const 0; raise 2; tuple 4; raise 1", "{b,c,a,throw} 0"},
		// A guard's: nothing is put.
		{"f 0 0: const 1; guard 5; const 0; const 0; raise 0; tuple 1; raise 1", "{b} 0"},
		{"f 0 0: guard 5; const 0; const 0; bif 3; raise 0; const 1; raise 1", "b 0"},
		// The last one of several; then the one ahead of it.
		{"f 0 0: try 5; try 4; const 0; raise 0; raise 1; tuple 2; raise 1", "{error,exit} 0"},
		{"f 0 0: try 6; guard 4; const 0; raise 2; const 1; raise 1; tuple 2; raise 1", "{b,exit} 0"},
		{"f 0 0: guard 6; try 4; const 0; raise 2; tuple 2; raise 1; const 2; raise 1", "c 0"},
		// A handler that is gone takes nothing.
		{"f 0 0: try 4; done; const 0; raise 1; const 1; raise 1", "a 0"},
		{"f 0 0: guard 4; done; const 0; raise 2; const 1; raise 1", "{nocatch,a} 0"},
		{"f 0 0: try 6; try 5; done; const 0; raise 0; raise 1; tuple 2; raise 1", "{a,error} 0"},
		// Within functions that were called: their frames end.
		{"f 0 1: const 0; store 0; const 1; try 6; call 1; raise 0; load 0; tuple 4; raise 1 | g 0 0: const 2; call 2; raise 0 | h 0 0: const 2; raise 2", "{b,c,throw,a} 2"},
		{"f 0 0: const 1; guard 4; call 1; raise 0; tuple 1; raise 1 | g 0 0: const 2; raise 2", "{b} 1"},
		{"f 0 0: const 1; try 4; remote 3 0; raise 0; tuple 3; raise 1 | g 0 0: const 2; bif 2; return", "{b,badarg,error} 1"},
		// A handler of a function that was called is nearer.
		{"f 0 0: try 4; call 1; done; raise 1; raise 0 | g 0 0: try 3; const 2; raise 2; tuple 2; return", "{c,throw} 1"},
		// One that a function had that came back is gone.
		{"f 0 0: call 1; raise 2 | g 0 0: try 4; const 2; done; return; tuple 2; return", "{nocatch,c} 1"},
	}...)
}

// Chapter 15, where what stood below a handler's height was taken away ahead of the raise: at that height stands what was put there last.
func TestBelowTheHandler(t *testing.T) {
	ends(t, "a b c", [][2]string{
		{"f 0 0: const 0; try 5; pop; const 1; raise 0; tuple 3; raise 1", "{b,b,error} 0"},
		{"f 0 0: const 0; const 1; try 7; pop; pop; const 2; raise 2; tuple 4; raise 1", "{c,b,c,throw} 0"},
		{"f 0 0: const 0; const 1; guard 6; pop; const 2; raise 2; tuple 2; raise 1", "{a,c} 0"},
		{"f 0 0: const 0; const 1; guard 7; pop; pop; const 2; raise 2; raise 1", "b 0"},
		{"f 0 0: const 0; const 1; guard 7; pop; pop; const 2; raise 2; pop; raise 1", "c 0"},
	}...)
}

// P18.3: Raise is raised where the answer belongs: the handlers there take it.
func TestRaiseInPlace(t *testing.T) {
	forms := "f() -> try g() catch error:R -> exit({e, R}); exit:R -> exit({x, R}); R -> exit({t, R}) end. g() -> try nodes() catch throw:a -> display(inner) end, 1."
	for _, x := range [][]string{
		{"raise error r", "run 9 0: end {e,r} 0"}, {"raise exit {r,1}", "run 9 0: end {x,{r,1}} 0"}, {"raise throw r", "run 9 0: end {t,r} 0"},
		{"raise throw a", "is: ready 2 2 []", "run 9 0: display(inner) 1", "is: asked 3 2 []", "raise throw a", "run 9 0: end {t,a} 0"},
	} {
		v := text(t, forms)
		play(t, v, append([]string{"run 9 0: nodes() 2", "is: asked 2 2 []"}, x...)...)
	}
	// Within a guard it is the guard that fails.
	v := hand(t, "a", "f 0 0: guard 4; act 14; done; raise 0; const 0; raise 1")
	play(t, v, "run 9 0: nodes() 1", "raise exit x", "run 9 0: end a 0")
	v = hand(t, "a", "f 0 0: guard 4; act 14; done; raise 1; const 0; raise 1")
	play(t, v, "run 9 0: nodes() 1", "resume x", "run 9 0: end x 0")
}
