package vm_test

import (
	"fmt"
	"testing"

	"heddle/api"
)

// P18.2: as many frames as may be, by CCall and by CRemote; one more raises system_limit.
func TestFrames(t *testing.T) {
	for _, call := range []string{"f", "m:f"} {
		forms := fmt.Sprintf("f(0) -> display(x), 0; f(N) -> 1 + %s(N - 1).", call)
		for _, calls := range []int{16382, 16383} {
			v := text(t, forms, fmt.Sprint(calls))
			play(t, v, fmt.Sprintf("run 100000 0: display(x) %d", calls+1), fmt.Sprintf("is: asked %d %d []", calls+1, calls+1), "resume x", "run 1 0: end normal 0", fmt.Sprintf("is: ended %d 0 []", calls+1))
		}
		v := text(t, forms, "16384")
		play(t, v, "run 100000 0: end system_limit 16384", "is: ended 16384 0 []")
		v = text(t, forms, "16384")
		play(t, v, "run 16383 0: yield 16383", "is: ready 16383 16384 []", "run 1 0: end system_limit 1", "is: ended 16384 0 []")
	}
}

// P18.2: what is raised there is caught as anything else; the frame that would have been made is none.
func TestFramesCaught(t *testing.T) {
	for _, call := range []string{"call 1", "remote 1 1"} {
		// Each frame goes one deeper; the one that cannot tells how it raised.
		v := hand(t, "0 {m,g} -1", "f 0 0: const 0; tail 1", "g 1 1: const 2; try 5; load 0; "+call+"; raise 1; tuple 3; act 16; raise 1")
		play(t, v, "run 100000 0: display({-1,system_limit,error}) 16386", "is: asked 16386 16384 []", "resume x", "run 9 0: display({-1,x,exit}) 1", "is: asked 16387 16383 []")
	}
}

// P18.2: of a function that is not there no frame would be made: undef, also where no more may be.
func TestFramesUndef(t *testing.T) {
	forms := "f(0) -> try x:y() catch error:R -> display(R) end, 0; f(N) -> 1 + f(N - 1)."
	play(t, text(t, forms, "16383"), "run 100000 0: display(undef) 16385", "is: asked 16385 16384 []")
}

// P18.2: CTail and CLeave make no frame more, also where there are as many as may be.
func TestTailFrames(t *testing.T) {
	for _, call := range []string{"g", "m:g"} {
		forms := fmt.Sprintf("f(0) -> g(100); f(N) -> 1 + f(N - 1). -export([g/1]). g(0) -> display(x); g(N) -> %s(N - 1).", call)
		play(t, text(t, forms, "16383"), "run 100000 0: display(x) 16485", "is: asked 16485 16384 []", "resume 5", "run 1 0: end normal 0")
		play(t, text(t, "f(N) -> g(N). -export([g/1]). g(0) -> display(x); g(N) -> "+call+"(N - 1).", "40000"), "run 100000 0: display(x) 40002", "is: asked 40002 1 []")
	}
}

// Frames of functions with many locals and high stacks.
func TestGreatFrames(t *testing.T) {
	c := made(t, "a", "f 0 1024: 100*const 0; call 0; raise 1")
	play(t, start(t, c), "run 100000 0: end system_limit 16384")
	c = made(t, "a 0", "f 0 1024: const 0; store 1023; 8191*const 0; load 1023; 8190*pop; tuple 2; raise 1")
	play(t, start(t, c), "run 1 0: end {a,a} 0")
}

// How many frames there are is told behind every call.
func TestFramesTold(t *testing.T) {
	v := text(t, "f() -> g(), display(0). g() -> h(), display(1). h() -> display(2), 0.")
	play(t, v, "is: ready 0 1 []", "run 1 0: yield 1", "is: ready 1 2 []", "run 1 0: yield 1", "is: ready 2 3 []", "run 1 0: display(2) 1", "is: asked 3 3 []", "resume 1", "is: ready 3 3 []", "run 1 0: display(1) 1", "is: asked 4 2 []", "raise error x", "is: ready 4 2 []", "run 1 0: end x 0", "is: ended 4 0 []")
	// A raise ends the frames above its handler's.
	v = text(t, "f() -> try g() catch X -> display(X) end. g() -> h(). h() -> [i()]. i() -> [nodes()].")
	play(t, v, "run 9 0: nodes() 4", "is: asked 4 3 []", "raise throw x", "is: ready 4 3 []", "run 9 0: display(x) 1", "is: asked 5 1 []")
}

// The limits are those of package api.
func TestLimits(t *testing.T) {
	if api.MaxFrames != 16384 || api.MaxBudget != 1<<20 || api.MaxArgs != 255 || api.MaxMailbox != 4096 || api.MaxClock != 1<<40 {
		t.Error("limits")
	}
}
