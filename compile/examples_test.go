package compile_test

import (
	"fmt"
	"testing"

	"heddle/api"
)

// The chapter's examples.
func TestExamples(t *testing.T) {
	receives := "f() -> receive {a, X} when X > 1 -> X after 10 -> no end, receive Y -> display(Y) end."
	holdAll(t, []trial{
		{"f(X) -> X = 1, ok.", "f(2)", "end {badmatch,1} 0", nil},
		{"f(X) -> X = 1, ok.", "f(1)", "end normal 0", nil},
		{"f(X) -> case X of 1 -> a end.", "f(2)", "end {case_clause,2} 0", nil},
		{"f(1) -> ok.", "f(2)", "end function_clause 0", nil},
		{"f() -> try hd([]) catch error:R -> self() ! R end.", "f()", "!(<n@h.1.5.0>,badarg) 2; end normal 2", nil},
		{receives, "f()", "display({a,1}) 2; end normal 2", come("+{a,1} +{a,2}")},
	})
	// Those of chapter 18, as far as a program's text tells them.
	holdAll(t, []trial{
		{"f() -> self() ! 1, receive X -> X end.", "f()", "!(<n@h.1.5.0>,1) 2; end normal 2", come("", "=1 +1")},
		{"f() -> receive after 5 -> ok end.", "f()", "wait till 15 0; wait till 15 0; end normal 0", come("@10", "@14", "@15")},
		{"f() -> hd(a).", "f()", "end badarg 0", nil},
		{"f() -> throw(x).", "f()", "end {nocatch,x} 0", nil},
		{"f() -> ok. g() -> ok.", "g()", "end undef 0", nil},
	})
}

// P16.2: so many calls may be under way as there may be frames.
func TestCallsUnderWay(t *testing.T) {
	for _, forms := range []string{"f(0) -> 0; f(N) -> 1 + f(N - 1).", "f(0) -> 0; f(N) -> 1 + m:f(N - 1).", "f(0) -> 0; f(N) -> try 1 + f(N - 1) catch x -> y end.", "f(0) -> 0; f(N) -> case N of _ -> {X} = {f(N - 1)}, X + 1 end."} {
		c := made(t, module(forms+" g(N) -> display(f(N)). -export([g/1]).", 1))
		const calls = api.MaxFrames - 2
		o := &outside{plan: &script{t, nil}, most: 2 * calls}
		want := fmt.Sprintf("display(%d) %d; end normal %d", calls, calls+2, calls+2)
		if got := watch(o, byCode(c, "m", "g", []api.Term{num(calls)})); got != want {
			t.Errorf("%s: %s, not %s", forms, got, want)
		}
	}
}
