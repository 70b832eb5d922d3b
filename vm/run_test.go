package vm_test

import (
	"fmt"
	"math"
	"testing"

	"heddle/api"
	"heddle/sample"
	"heddle/vm"
)

var (
	noBudgets = []int{0, -1, api.MaxBudget + 1, math.MinInt, math.MaxInt}
	noClocks  = []int{-1, api.MaxClock + 1, math.MinInt, math.MaxInt}
)

// noRun holds that a Run is refused, and that nothing has changed.
func noRun(t *testing.T, v *vm.VM, budget, now int, code api.Errno) {
	t.Helper()
	before := look(t, v)
	e, err := v.Run(budget, now)
	refused(t, fmt.Sprintf("Run(%d, %d)", budget, now), err, code)
	if after := look(t, v); !sample.SameEvent(e, api.Event{}) || !after.same(before) {
		t.Fatalf("Run(%d, %d) is refused with %+v, and changes %v to %v", budget, now, e, before, after)
	}
}

// refusals holds all that Run refuses whatever a process does, at a time that is the last one: what is named first counts.
func refusals(t *testing.T, v *vm.VM, last int) {
	t.Helper()
	for _, budget := range noBudgets {
		noRun(t, v, budget, last, api.ErrArg)
		for _, now := range noClocks {
			noRun(t, v, budget, now, api.ErrArg)
		}
		noRun(t, v, budget, last-1, api.ErrArg)
	}
	for _, now := range append(noClocks, last-1, last-100) {
		noRun(t, v, 1, now, api.ErrRange)
		noRun(t, v, api.MaxBudget, now, api.ErrRange)
	}
}

// P18.2: which budgets and times may be, of processes that are Ready, Waiting, Asked, Ended.
func TestRunRefused(t *testing.T) {
	v := text(t, "f() -> receive a -> ok end, display(1), display(2).")
	refusals(t, v, 0)
	play(t, v, "run 5 10: wait 0")
	refusals(t, v, 10)
	play(t, v, "run 1 10: wait 0", "run 1048576 12: wait 0", "run 1 11 !2", "put a", "run 1 12: display(1) 1")
	refusals(t, v, 12)
	for _, now := range []int{12, 13, api.MaxClock} {
		noRun(t, v, 1, now, api.ErrAsked)
	}
	play(t, v, "resume ok")
	refusals(t, v, 12)
	play(t, v, "run 1 12: display(2) 1", "raise exit x", "run 1 20: end x 0")
	refusals(t, v, 20)
	for _, now := range []int{20, 21, api.MaxClock} {
		noRun(t, v, 1, now, api.ErrEnd)
	}
}

// P18.2: a Run that is refused has been at no time.
func TestRefusedTimes(t *testing.T) {
	v := text(t, "f() -> display(1), receive after 5 -> ok end.")
	play(t, v, "run 0 30 !1", "run 1 3: display(1) 1", "run 1 50 !360", "run 1 2 !2", "resume 1", "run 0 40 !1", "run 1 3: wait till 8 0", "run 1 7: wait till 8 0", "run 1 8: end normal 0", "run 1 90 !8", "run 1 7 !2", "run 1 8 !8")
}

// P18.2: the greatest budget, and the latest time.
func TestRunLimits(t *testing.T) {
	v := text(t, "f() -> f().")
	runs(t, v, api.MaxBudget, 0, "yield 1048576")
	runs(t, v, 1, api.MaxClock, "yield 1")
	runs(t, v, api.MaxBudget, api.MaxClock, "yield 1048576")
	play(t, v, "is: ready 2097153 1 []")
	v = text(t, "f() -> receive after 1099511627776 -> ok end.")
	runs(t, v, 1, 0, "wait till 1099511627776 0")
	runs(t, v, 1, api.MaxClock-1, "wait till 1099511627776 0")
	runs(t, v, 1, api.MaxClock, "end normal 0")
	v = text(t, "f() -> receive after 1099511627776 -> ok end.")
	runs(t, v, 1, api.MaxClock, "wait till 2199023255552 0")
	runs(t, v, 1, api.MaxClock, "wait till 2199023255552 0")
	play(t, v, "is: waiting 0 1 []")
}

// P18.2: a Run yields just ahead of what is counted, not ahead of anything else.
func TestYield(t *testing.T) {
	one := func() *vm.VM {
		return hand(t, "a b", "f 0 1: const 0; pop; act 0; store 0; act 1; load 0; tuple 2; call 1; pop; raise 1", "g 0 0: const 0; return")
	}
	play(t, one(), "run 1 0: yield 1", "is: ready 1 1 []", "run 1 0: yield 1", "is: ready 2 1 []", "run 1 0: end {n@h,<n@h.1.5.0>} 1", "is: ended 3 0 []")
	play(t, one(), "run 2 0: yield 2", "run 2 0: end {n@h,<n@h.1.5.0>} 1")
	play(t, one(), "run 2 0: yield 2", "run 1 0: end {n@h,<n@h.1.5.0>} 1")
	play(t, one(), "run 1 0: yield 1", "run 2 0: end {n@h,<n@h.1.5.0>} 2")
	// With the budget used up it goes on to its end, its wait, its next instruction that is counted.
	for _, budget := range []string{"3", "4", "1048576"} {
		play(t, one(), "run "+budget+" 0: end {n@h,<n@h.1.5.0>} 3")
	}
	v := hand(t, "a infinity", "f 0 0: act 0; pop; const 1; wait 0; const 0; return")
	play(t, v, "run 1 0: wait 1", "is: waiting 1 1 []", "run 1 0: wait 0")
	v = hand(t, "a", "f 0 0: act 14; pop; act 14; return")
	play(t, v, "run 1 0: nodes() 1", "resume a", "run 1 0: nodes() 1", "resume a", "run 1 0: end normal 0", "is: ended 2 0 []")
}

// P18.2: Used is what was counted in this Run; Calls their sum.
func TestUsed(t *testing.T) {
	v := text(t, "f() -> display(node()), g(3), display(2). g(0) -> self(); g(N) -> [g(N - 1)].")
	play(t, v, "run 100 0: display(n@h) 2", "is: asked 2 1 []", "resume a", "is: ready 2 1 []", "run 2 0: yield 2", "is: ready 4 3 []", "run 2 0: yield 2", "is: ready 6 5 []", "run 100 0: display(2) 2", "is: asked 8 1 []", "resume a", "run 100 0: end normal 0", "is: ended 8 0 []")
}
