package vm_test

import (
	"testing"

	"heddle/api"
	"heddle/sample"
	"heddle/vm"
)

// P18.4: messages of all kinds, in order, in every state but the last.
func TestPut(t *testing.T) {
	terms := []api.Term{num(1), word("a"), null(), tuple(num(1), tuple(sample.Ones(4092)...)), sample.Chain(255, num(1)), pid("m@h", 1, 2, 3), sample.Ref("m@h", 1, 1, 2, 3), list(num(1), word("t"))}
	v := text(t, "f() -> self(), self(), receive z -> 1 end, nodes(), 1.")
	var want []api.Term
	put := func() {
		t.Helper()
		before := look(t, v)
		for _, x := range terms {
			done(t, "Put", v.Put(x))
			want = append(want, x)
		}
		before.messages, before.Process.Messages = want, len(want)
		if after := look(t, v); !after.same(before) {
			t.Fatalf("%v, want %v", after, before)
		}
	}
	put()
	play(t, v, "run 1 0: yield 1")
	put()
	play(t, v, "run 100 0: wait 17")
	put()
	play(t, v, "put z", "run 100 0: nodes() 9")
	put()
	play(t, v, "resume x")
	put()
	play(t, v, "run 1 0: end normal 0")
	for _, x := range append(terms, api.Term{}) {
		refused(t, "Put", v.Put(x), api.ErrEnd)
	}
	if got := look(t, v); !got.same(view{api.Process{State: api.Ended, Calls: 27, Messages: len(want)}, want}) {
		t.Errorf("%v", got)
	}
}

// P18.4: values that are no terms: mail.Put's number, its fault under; nothing has changed.
func TestPutRefused(t *testing.T) {
	v := text(t, "f() -> receive z -> 1 end.")
	for range 2 {
		for _, w := range sample.NoTerms() {
			before := look(t, v)
			mail := sample.Under("mail", 0, w.Chain)
			if err := v.Put(w.Value); !sample.IsFault(err, under(0, mail)...) {
				t.Errorf("Put(%v): %v", w.Value, err)
			}
			if after := look(t, v); !after.same(before) {
				t.Fatalf("%v was %v", after, before)
			}
		}
		play(t, v, "put a", "run 1 0: wait 1")
	}
}

// P18.4: 4096 messages may be, one more not; one that is taken makes room.
func TestPutFull(t *testing.T) {
	v := text(t, "f() -> receive z -> 1 end, receive 5 -> 1 end.")
	full := func() {
		t.Helper()
		before := look(t, v)
		if err := v.Put(word("z")); before.Process.Messages != 4096 || !sample.IsFault(err, fault(0, api.ErrMany), api.Fault{Layer: "mail", Code: api.ErrMany}) {
			t.Fatalf("%d messages; Put: %v", before.Process.Messages, err)
		}
		if after := look(t, v); !after.same(before) {
			t.Fatal("Put changes what it is refused")
		}
		// What is no term is so also where there is no room.
		if err := v.Put(api.Term{}); !sample.IsFault(err, fault(0, api.ErrTerm), api.Fault{Layer: "mail", Code: api.ErrTerm}, api.Fault{Layer: "term", Code: api.ErrTerm}) {
			t.Fatal(err)
		}
	}
	for n := range 4095 {
		done(t, "Put", v.Put(num(int64(n))))
	}
	play(t, v, "put z")
	full()
	play(t, v, "run 4000 0: yield 4000")
	full()
	play(t, v, "run 4000 0: end normal 100")
	if got := len(v.Messages()); got != 4094 {
		t.Errorf("%d messages are left", got)
	}
	refused(t, "Put", v.Put(num(1)), api.ErrEnd)
}

// P18.4: Messages and State behind every call, to the end.
func TestToldBehindEveryCall(t *testing.T) {
	v := text(t, "f(X) -> display(X), receive {X, Y} -> g(Y) end. g(Y) -> [h(Y)]. h(Y) -> exit(nodes()).", "1")
	play(t, v,
		"is: ready 0 1 []", "put a", "is: ready 0 1 [a]", "run 1 0: display(1) 1", "is: asked 1 1 [a]", "put {1,2}", "is: asked 1 1 [a,{1,2}]",
		"resume x", "is: ready 1 1 [a,{1,2}]", "run 1 0: yield 1", "is: ready 2 1 [a]", "run 1 0: yield 1", "is: ready 3 1 [a]",
		"run 1 0: yield 1", "is: ready 4 2 [a]", "run 1 0: nodes() 1", "is: asked 5 2 [a]", "raise exit x", "is: ready 5 2 [a]", "run 1 0: end x 0", "is: ended 5 0 [a]", "put b !8", "is: ended 5 0 [a]")
}

// P18.4: an answer of Messages is new each time, also of one that has none.
func TestNoMessages(t *testing.T) {
	for _, v := range []*vm.VM{text(t, "f() -> 1."), nil, {}} {
		if l := v.Messages(); len(l) != 0 {
			t.Errorf("%v", l)
		}
	}
}
