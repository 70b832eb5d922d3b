package vm_test

import (
	"fmt"
	"math/rand"
	"slices"
	"strings"
	"testing"

	"heddle/api"
	"heddle/luck"
	"heddle/vm"
)

// slicer runs a process in budgets of its own; what comes hangs on a seed and on what was counted alone.
type slicer struct {
	v      *vm.VM
	r      *rand.Rand // what comes at events
	budget func() int
	plan   []happening
	now    int
	told   []string
}

// happening is what comes when so many were counted, if the process can be stopped there.
type happening struct {
	count   int
	message api.Term
	ticks   int
}

func plans(r *rand.Rand) []happening {
	var plan []happening
	for count := 1; count < 200; count += 1 + r.Intn(20) {
		plan = append(plan, happening{count, luck.Term(r.Intn, 2), r.Intn(4)})
	}
	return plan
}

// trace is all that is to be seen of a process from its start on.
func trace(t *testing.T, c api.Code, args []api.Term, seed int64, budget func() int) string {
	t.Helper()
	v, err := vm.New(c, "m", "f", args, who())
	done(t, "New", err)
	s := &slicer{v: v, r: rand.New(rand.NewSource(seed)), budget: budget, plan: plans(rand.New(rand.NewSource(seed + 1)))}
	for s.slice(t) {
	}
	return strings.Join(append(s.told, look(t, v).String()), "; ")
}

// slice is one Run, and what comes then: is there more?
func (s *slicer) slice(t *testing.T) bool {
	t.Helper()
	calls := s.v.State().Calls
	stop := slices.IndexFunc(s.plan, func(h happening) bool { return h.count > calls })
	if stop < 0 || len(s.told) > 40 {
		return false
	}
	e, err := s.v.Run(min(s.budget(), s.plan[stop].count-calls), s.now)
	done(t, "Run", err)
	calls += e.Used
	if e.Kind == api.EvYield {
		if h := s.plan[stop]; h.count == calls {
			s.come(t, h)
		}
		return true
	}
	e.Used = calls
	s.told = append(s.told, tell(e))
	switch e.Kind {
	case api.EvAct:
		if class := s.r.Intn(8); class < 3 {
			done(t, "Raise", s.v.Raise([]string{"error", "exit", "throw"}[class], luck.Term(s.r.Intn, 2)))
		} else {
			done(t, "Resume", s.v.Resume(luck.Term(s.r.Intn, 2)))
		}
	case api.EvWait:
		s.come(t, happening{message: luck.Term(s.r.Intn, 2), ticks: s.r.Intn(4)})
	}
	return e.Kind != api.EvEnd
}

func (s *slicer) come(t *testing.T, h happening) {
	t.Helper()
	s.now += h.ticks
	if h.ticks != 1 {
		done(t, "Put", s.v.Put(h.message))
	}
}

// P18.5: in whatever budgets a process runs, it does the same.
func TestSlices(t *testing.T) {
	events := 0
	for seed := range int64(600) {
		c := someCode(t, rand.New(rand.NewSource(seed)))
		if seed%3 > 0 {
			c = compiled(t, seed)
		}
		args := []api.Term{luck.Term(rand.New(rand.NewSource(seed)).Intn, 2)}
		want := trace(t, c, args, seed, func() int { return 1 })
		r := rand.New(rand.NewSource(seed))
		for n, budget := range []func() int{func() int { return 2 }, func() int { return 7 }, func() int { return api.MaxBudget }, func() int { return 1 + r.Intn(3) }, func() int { return 1 + r.Intn(30) }} {
			if got := trace(t, c, args, seed, budget); got != want {
				t.Fatalf("seed %d, budget %d: %s\nwant %s", seed, n, got, want)
			}
		}
		events += strings.Count(want, ";")
	}
	if events < 1500 {
		t.Errorf("%d events: too few to tell", events)
	}
}

// P18.6: processes of the same code, however their calls are mixed, do not see one another.
func TestApart(t *testing.T) {
	c := chanceOf(rand.New(rand.NewSource(6)).Intn)
	for seed := range int64(150) {
		program := someCode(t, rand.New(rand.NewSource(seed)))
		if seed%2 == 0 {
			program = compiled(t, seed)
		}
		c.now = 0
		all := []*couple{c.some(t, program), c.some(t, program), c.some(t, program)}
		for range 120 {
			c.step(t, all[c.choose(3)])
		}
		for _, p := range all {
			p.agree(t)
		}
	}
}

// P18.6: two that call one function with one argument.
func TestTwoOfOne(t *testing.T) {
	c := source(t, "f(X) -> receive {X, Y} -> [display(Y), f(X)] after 5 -> exit(X) end.", 1)
	a, b := start(t, c, word("x")), start(t, c, word("x"))
	play(t, a, "put {x,1}", "run 9 0: display(1) 1")
	play(t, b, "is: ready 0 1 []", "run 9 7: wait till 12 0")
	play(t, a, "run 9 0 !360", "resume ok", "run 9 3: wait till 8 1", "is: waiting 2 2 []")
	play(t, b, "put {x,2}", "run 9 12: display(2) 1", "is: asked 1 1 []")
	play(t, a, "run 9 8: end x 0")
	play(t, b, "raise exit y", "run 9 12: end y 0", "is: ended 1 0 []")
}

// P18.7: each Run ends, of code that goes round by jumps alone, through handlers, by calls without end, and of long code.
func TestRunsEnd(t *testing.T) {
	for _, funs := range [][]string{
		{"f 0 0: jump 0"}, {"f 0 0: jump 1; jump 0"}, {"f 0 0: jump 2; jump 0; jump 1"},
		{"f 0 0: guard 0; const 0; raise 0"}, {"f 0 0: guard 3; const 0; raise 0; guard 0; const 0; raise 1"},
		{"f 0 0: tail 0"}, {"f 0 0: try 3; call 0; raise 0; pop; pop; jump 0"}, {"f 0 0: call 1; pop; jump 0", "g 0 0: try 3; const 0; raise 0; pop; return"},
		{"f 0 0: peek 0; pop; jump 0"}, {"f 0 0: next 0"}, {"f 0 0: take; jump 0"}, {"f 0 0: const 0; branch 0 0; jump 0"},
		{"f 0 0: 65535*take; jump 0"}, {"f 0 0: 8000*const 0; 8000*pop; jump 0"},
	} {
		v := hand(t, "a", funs...)
		sum := 0
		for _, budget := range []int{1, 3, 50, 17} {
			runs(t, v, budget, 0, fmt.Sprintf("yield %d", budget))
			sum += budget
		}
		if got := v.State().Calls; got != sum {
			t.Errorf("%v: %d calls, want %d", funs, got, sum)
		}
	}
	runs(t, hand(t, "a", "f 0 0: jump 0"), api.MaxBudget, 0, "yield 1048576")
	// A CWait back is not counted, but it waits each time.
	v := hand(t, "9", "f 0 0: const 0; wait 0; const 0; return")
	play(t, v, "put a", "run 1 0: wait till 9 0", "run 1 5: wait till 9 0", "run 1 9: end normal 0")
	// Nor is what comes back: all frames may end in one Run.
	v = text(t, "f(0) -> 0; f(N) -> 1 + f(N - 1).", "16383")
	play(t, v, "run 16383 0: end normal 16383")
	v = text(t, "f(0) -> 0; f(N) -> 1 + f(N - 1).", "16383")
	play(t, v, "run 16382 0: yield 16382", "is: ready 16382 16383 []", "run 1 0: end normal 1")
}
