package vm_test

import (
	"testing"

	"heddle/api"
	"heddle/sample"
	"heddle/vm"
)

// asked is a process that wants an answer, with which it ends; behind a message.
func asked(t *testing.T) *vm.VM {
	t.Helper()
	v := text(t, "f() -> X = nodes(), exit({a, X, b}).")
	play(t, v, "put m", "run 9 3: nodes() 1", "is: asked 1 1 [m]")
	return v
}

// P18.3: the answer is put where it belongs, whatever term it is.
func TestResume(t *testing.T) {
	for _, x := range []api.Term{num(1), word("a"), null(), tuple(), list(num(1), word("t")), pid("m@h", 1, 2, 3), sample.Ref("m@h", 1, 1, 2, 3), tuple(sample.Ones(4092)...), sample.Chain(254, num(1))} {
		v := asked(t)
		done(t, "Resume", v.Resume(x))
		play(t, v, "is: ready 1 1 [m]", "resume a !360", "raise exit a !360")
		e, err := v.Run(1, 3)
		if err != nil || !sample.SameEvent(e, api.Event{Kind: api.EvEnd, Reason: tuple(word("a"), x, word("b"))}) {
			t.Errorf("%s: %s, %v", show(x), tell(e), err)
		}
	}
	// A term that is as great as one may be is an answer, too.
	v := asked(t)
	done(t, "Resume", v.Resume(tuple(sample.Ones(4095)...)))
	play(t, v, "run 1 3: end system_limit 0")
}

// P18.3: values that are no terms: package term's fault under; nothing has changed.
func TestResumeRefused(t *testing.T) {
	v := asked(t)
	for _, w := range sample.NoTerms() {
		before := look(t, v)
		if err := v.Resume(w.Value); !sample.IsFault(err, under(0, w.Chain)...) {
			t.Errorf("Resume(%v): %v", w.Value, err)
		}
		for _, class := range []string{"error", "exit", "throw"} {
			if err := v.Raise(class, w.Value); !sample.IsFault(err, under(0, w.Chain)...) {
				t.Errorf("Raise(%s, %v): %v", class, w.Value, err)
			}
		}
		if after := look(t, v); !after.same(before) {
			t.Fatalf("%v was %v", after, before)
		}
	}
	play(t, v, "resume x", "run 1 3: end {a,x,b} 0")
}

// P18.3: classes that are none come ahead of reasons that are no terms.
func TestRaiseClasses(t *testing.T) {
	v := asked(t)
	for _, class := range []string{"", "Error", "error ", "errors", "throws", "exi", "normal", "\xff", "error\x00"} {
		refused(t, class, v.Raise(class, word("x")), api.ErrArg)
		refused(t, class, v.Raise(class, api.Term{}), api.ErrArg)
	}
	play(t, v, "is: asked 1 1 [m]", "raise exit x", "is: ready 1 1 [m]", "run 1 3: end x 0", "is: ended 1 0 [m]")
}

// P18.3: of a process that is not Asked both are refused, ahead of all else.
func TestNotAsked(t *testing.T) {
	nobodyAsks := func(v *vm.VM) {
		t.Helper()
		before := look(t, v)
		for _, x := range []api.Term{word("x"), {}} {
			refused(t, "Resume", v.Resume(x), api.ErrAsked)
			for _, class := range []string{"exit", "none"} {
				refused(t, "Raise", v.Raise(class, x), api.ErrAsked)
			}
		}
		if after := look(t, v); !after.same(before) {
			t.Fatalf("%v was %v", after, before)
		}
	}
	v := text(t, "f() -> self(), node(), receive a -> 1 end, nodes(), nodes().")
	nobodyAsks(v)
	play(t, v, "run 1 0: yield 1")
	nobodyAsks(v)
	play(t, v, "run 1 0: wait 1")
	nobodyAsks(v)
	play(t, v, "put a")
	nobodyAsks(v)
	play(t, v, "run 1 0: nodes() 1", "resume x")
	nobodyAsks(v)
	play(t, v, "run 1 0: nodes() 1", "raise exit x")
	nobodyAsks(v)
	play(t, v, "run 1 0: end x 0")
	nobodyAsks(v)
}

// P18.3: what was answered or raised stays so till the process runs; messages may come in between.
func TestPutBetween(t *testing.T) {
	v := asked(t)
	play(t, v, "put n", "is: asked 1 1 [m,n]", "run 9 3 !360", "resume x", "put o", "is: ready 1 1 [m,n,o]", "run 1 3: end {a,x,b} 0", "is: ended 1 0 [m,n,o]")
	v = asked(t)
	play(t, v, "raise error x", "put o", "run 0 3 !1", "run 1 2 !2", "run 1 3: end x 0", "is: ended 1 0 [m,o]")
}
