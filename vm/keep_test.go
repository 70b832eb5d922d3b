package vm_test

import (
	"math/rand"
	"slices"
	"testing"

	"heddle/api"
	"heddle/sample"
	"heddle/vm"
)

func scribble(terms []api.Term) { sample.Scribble(api.Term{Args: terms}) }

// deep is a term with lists of parts and of numbers at every depth.
func deep() api.Term {
	return tuple(who().Self, list(sample.Ref("n@h", 1, 1, 2, 3), tuple(num(2), tuple(pid("m@h", 2, 3, 4))), null()))
}

// Rule 4: code, args and who are neither changed nor kept: who changes them afterwards changes nothing in the process.
func TestKeepsNothingOfNew(t *testing.T) {
	c := chanceOf(rand.New(rand.NewSource(4)).Intn)
	for seed := range int64(300) {
		clean := someCode(t, rand.New(rand.NewSource(seed)))
		if seed%3 == 0 {
			clean = compiled(t, seed)
		}
		program, args := sample.RoomyCode(clean), sample.Roomy([]api.Term{deep()})
		self := sample.Roomy([]api.Term{who().Self})
		v, err := vm.New(program, "m", "f", args, api.Who{Self: self[0], Node: "n@h"})
		done(t, "New", err)
		if !sample.UntouchedCode(program, clean) || !sample.Untouched(args, []api.Term{deep()}) || !sample.Untouched(self, []api.Term{who().Self}) {
			t.Fatal("New changes what it is given")
		}
		sample.ScribbleCode(program)
		scribble(args)
		scribble(self)
		p := &couple{v, modelOf(clean, "m", "f", []api.Term{deep()}, who()), clean, []string{"scribbled"}}
		c.follow(t, p, 60)
		if !sample.UntouchedCode(sample.RoomyCode(clean), clean) {
			t.Fatal("roomy")
		}
	}
}

// Rule 4: what runs leaves code as it is that others share.
func TestCodeIsNotChanged(t *testing.T) {
	c := chanceOf(rand.New(rand.NewSource(5)).Intn)
	for seed := range int64(100) {
		clean := someCode(t, rand.New(rand.NewSource(seed)))
		program := sample.RoomyCode(clean)
		c.follow(t, coupleOf(t, program, "m", "f", nil), 60)
		if !sample.UntouchedCode(program, clean) {
			t.Fatal("code is changed")
		}
	}
}

// Rule 4: refused or not, New changes nothing.
func TestRefusedNew(t *testing.T) {
	args := sample.Roomy([]api.Term{deep(), tuple(num(1), api.Term{}), deep()})
	_, err := vm.New(identity(t), "m", "f", args, who())
	if !sample.IsFault(err, fault(1, api.ErrTerm), api.Fault{Layer: "term", At: 2, Code: api.ErrTerm}) || !sample.Untouched(args, []api.Term{deep(), tuple(num(1), api.Term{}), deep()}) {
		t.Error(err)
	}
}

// Rule 4: an event's Args and Reason are new memory each time: who changes them changes nothing in the process, in another event, or in Messages.
func TestEventsShareNothing(t *testing.T) {
	v := text(t, "f(X) -> receive Y -> [X ! Y, X ! Y, display([X, X | Y]), exit({X, X})] end.", show(deep()))
	done(t, "Put", v.Put(deep()))
	done(t, "Put", v.Put(deep()))
	var events []api.Event
	var boxes [][]api.Term
	want := [][]api.Term{{deep(), deep()}, {deep(), deep()}, {list(deep(), deep(), deep())}}
	for n := range 3 {
		e, err := v.Run(9, 0)
		if err != nil || e.Kind != api.EvAct || !slices.EqualFunc(e.Args, want[n], sample.Same) {
			t.Fatalf("%s, %v", tell(e), err)
		}
		events, boxes = append(events, e), append(boxes, v.Messages())
		answer := deep()
		done(t, "Resume", v.Resume(answer))
		sample.Scribble(answer)
		// Each of a list's parts is of its own, too.
		scribble(e.Args[0].Args)
		for _, x := range e.Args[1:] {
			if !sample.Same(x, deep()) {
				t.Fatal("Args share memory")
			}
		}
		scribble(boxes[n])
	}
	last, err := v.Run(9, 0)
	if err != nil || !sample.Same(last.Reason, tuple(deep(), deep())) {
		t.Fatalf("%s, %v", tell(last), err)
	}
	sample.Scribble(last.Reason.Args[0])
	if !sample.Same(last.Reason.Args[1], deep()) {
		t.Error("parts of a Reason share memory")
	}
	if got := v.Messages(); !slices.EqualFunc(got, []api.Term{deep()}, sample.Same) {
		t.Errorf("%s", showAll(got))
	}
	for _, e := range events {
		scribble(e.Args)
	}
}

// Rule 4: two answers that tell the same share nothing.
func TestAnswersShareNothing(t *testing.T) {
	v := text(t, "f(X) -> [display(X), display(X)].", show(deep()))
	done(t, "Put", v.Put(deep()))
	first, _ := v.Run(9, 0)
	one := v.Messages()
	done(t, "Resume", v.Resume(num(1)))
	second, _ := v.Run(9, 0)
	two := v.Messages()
	scribble(first.Args)
	scribble(one)
	if !slices.EqualFunc(second.Args, []api.Term{deep()}, sample.Same) || !slices.EqualFunc(two, []api.Term{deep()}, sample.Same) {
		t.Error("an answer is memory of another one")
	}
	_ = append(two, num(1))
	if got := v.Messages(); !slices.EqualFunc(got, []api.Term{deep()}, sample.Same) {
		t.Error(showAll(got))
	}
}

// Rule 4: constants, self and reasons that are told leave the process, too.
func TestConstantsAreNotTold(t *testing.T) {
	v := hand(t, show(deep()), "f 0 0: const 0; act 16; pop; act 0; act 16; pop; const 0; act 16; pop; act 0; raise 1")
	for n := range 3 {
		e, err := v.Run(9, 0)
		want := deep()
		if n == 1 {
			want = who().Self
		}
		if err != nil || len(e.Args) != 1 || !sample.Same(e.Args[0], want) {
			t.Fatalf("%s, %v", tell(e), err)
		}
		scribble(e.Args)
		done(t, "Resume", v.Resume(num(1)))
	}
	play(t, v, "run 9 0: end <n@h.1.5.0> 1")
}

// Rule 4: one memory that is handed in twice, or to two processes, is two.
func TestOneArgumentTwice(t *testing.T) {
	x, c := deep(), source(t, "f(X, Y) -> receive Z -> [display(X), exit([X, Y, Z])] end.", 2)
	a, b := start(t, c, x, x), start(t, c, x, x)
	for _, v := range []*vm.VM{a, b} {
		done(t, "Put", v.Put(x))
		e, _ := v.Run(9, 0)
		scribble(e.Args)
		done(t, "Resume", v.Resume(x))
	}
	sample.Scribble(x)
	for _, v := range []*vm.VM{a, b} {
		if e, err := v.Run(9, 0); err != nil || !sample.Same(e.Reason, list(deep(), deep(), deep(), null())) {
			t.Errorf("%s, %v", tell(e), err)
		}
	}
}

// Rule 4: nil and empty lists are the same, wherever they stand.
func TestEmptyLists(t *testing.T) {
	empty := api.Code{Consts: []api.Term{{Kind: api.KTuple, Args: []api.Term{}, Nums: []uint32{}}, {Kind: api.KAtom, Text: "a", Args: []api.Term{}}}, Mods: []api.Mod{{Name: "k", Exports: []int{}, Funs: []api.Fun{}}, {Name: "m", Exports: []int{0}, Funs: []api.Fun{{Name: "f", Code: []api.Insn{{Op: api.CPeek, A: 5}, {Op: api.CConst, A: 0}, {Op: api.CSame, A: 5}, {Op: api.CConst, A: 1}, {Op: api.CRaise, A: 1}, {Op: api.CConst, A: 0}, {Op: api.CRaise, A: 1}}}}}}}
	self := who()
	self.Self.Args = []api.Term{}
	v, err := vm.New(empty, "m", "f", []api.Term{}, self)
	done(t, "New", err)
	done(t, "Put", v.Put(tuple()))
	play(t, v, "run 9 0: end a 0")
}
