package vm_test

import (
	"testing"

	"heddle/vm"
)

// The chapter's examples.
func TestExamples(t *testing.T) {
	play(t, text(t, "f() -> self() ! 1, receive X -> X end."), "run 100 0: !(<n@h.1.5.0>,1) 2", "resume 1", "put 1", "run 100 0: end normal 0")
	play(t, text(t, "f() -> receive after 5 -> ok end."), "run 100 10: wait till 15 0", "run 100 14: wait till 15 0", "run 100 15: end normal 0")
	play(t, text(t, "f() -> f()."), "run 100 0: yield 100", "run 100 0: yield 100", "run 100 0: yield 100")
	play(t, text(t, "f() -> hd(a)."), "run 100 0: end badarg 0")
	play(t, text(t, "f() -> throw(x)."), "run 100 0: end {nocatch,x} 0")
	v, err := vm.New(source(t, "f() -> ok. g() -> ok.", 0), "m", "g", nil, who())
	done(t, "New", err)
	play(t, v, "run 100 0: end undef 0")
	// Those of chapter 16.
	play(t, text(t, "f(X) -> X = 1, ok.", "2"), "run 100 0: end {badmatch,1} 0")
	play(t, text(t, "f(X) -> case X of 1 -> a end.", "2"), "run 100 0: end {case_clause,2} 0")
	play(t, text(t, "f(1) -> ok.", "2"), "run 100 0: end function_clause 0")
	play(t, text(t, "f() -> try hd([]) catch error:R -> self() ! R end."), "run 100 0: !(<n@h.1.5.0>,badarg) 2")
	play(t, text(t, "f() -> receive {a, X} when X > 1 -> X after 10 -> no end."), "put {a,1}", "put {a,2}", "run 100 0: end normal 1", "is: ended 1 0 [{a,1}]")
}
