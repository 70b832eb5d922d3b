package vm_test

import (
	"testing"

	"heddle/api"
	"heddle/sample"
	"heddle/vm"
)

// nobody holds that every call refuses with ErrZero, whatever else applies, or tells nothing.
func nobody(t *testing.T, what string, v *vm.VM) {
	t.Helper()
	for _, budget := range append(noBudgets, 1, api.MaxBudget) {
		for _, now := range append(noClocks, 0, api.MaxClock) {
			e, err := v.Run(budget, now)
			refused(t, what+": Run", err, api.ErrZero)
			if !sample.SameEvent(e, api.Event{}) {
				t.Errorf("%s: Run: %+v", what, e)
			}
		}
	}
	for _, x := range []api.Term{num(1), {}, word("\xff")} {
		refused(t, what+": Resume", v.Resume(x), api.ErrZero)
		refused(t, what+": Put", v.Put(x), api.ErrZero)
		for _, class := range []string{"exit", "none"} {
			refused(t, what+": Raise", v.Raise(class, x), api.ErrZero)
		}
	}
	if got := look(t, v); !got.same(view{}) {
		t.Errorf("%s: %v", what, got)
	}
}

// Rule 3: of a process that is nil, that was made or copied by hand.
func TestNobodysProcess(t *testing.T) {
	nobody(t, "nil", nil)
	nobody(t, "new", new(vm.VM))
	nobody(t, "literal", &vm.VM{})
	v := text(t, "f() -> self(), receive a -> 1 end, nodes(), 1.")
	hold := func() {
		t.Helper()
		before := look(t, v)
		copied := *v
		nobody(t, "copied", &copied)
		if after := look(t, v); !after.same(before) {
			t.Fatalf("%v was %v", after, before)
		}
	}
	hold()
	for _, step := range []string{"put m", "run 2 0: wait 2", "put a", "run 1 0: nodes() 1", "resume x", "run 1 0: end normal 0"} {
		play(t, v, step)
		hold()
	}
}

// A process over which another one is laid by hand is nobody's either.
func TestOverwrittenProcess(t *testing.T) {
	a, b := text(t, "f() -> nodes()."), text(t, "f() -> f().")
	*a = *b
	nobody(t, "overwritten", a)
	play(t, b, "run 3 0: yield 3", "is: ready 3 1 []")
	*b = vm.VM{}
	nobody(t, "emptied by hand", b)
}
