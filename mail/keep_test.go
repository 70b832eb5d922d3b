package mail_test

import (
	"testing"

	"heddle/api"
	"heddle/mail"
	"heddle/sample"
)

// parts are great terms: lists of parts and of numbers at every depth.
func parts() []api.Term {
	deep := tuple(pid("n@h", 1, 5, 0), list(ref("n@h", 1, 1, 2, 3), tuple(num(2), tuple(pid("m@h", 2, 3, 4))), null()))
	return []api.Term{deep, pid("n@h", 1, 5, 0), ref("n@h", 1, 1, 2, 3), list(deep, deep, num(3)), tuple(), sample.Chain(9, deep)}
}

func scribble(terms []api.Term) { sample.Scribble(api.Term{Args: terms}) }

// Rule 4: what is handed in is not changed, and not kept: who changes it afterwards changes nothing in the box.
func TestKeepsNothingOfArguments(t *testing.T) {
	given := sample.Roomy(parts())
	b := open(t, 0, given...)
	if !sample.Untouched(given, parts()) {
		t.Fatal("Put changes what it is given")
	}
	scribble(given)
	shows(t, "scribbled", b, view{messages: parts()})

	were := append(append(append(spans(), endless()...), naughts()...), num(-1), tuple(num(5), pid("n@h", 1, 2, 3)))
	times := sample.Roomy(were)
	for _, x := range times {
		b.Wait(10, x)
	}
	if !sample.Untouched(times, were) {
		t.Error("Wait changes what it is given")
	}
	timed(t, b, 15)
	scribble(times)
	shows(t, "scribbled", b, view{parts(), 0, 15, true})

	wrong := sample.Roomy([]api.Term{tuple(num(1), pid("n@h", 1, 2, 3), api.Term{})})
	err := b.Put(wrong[0])
	if !sample.Untouched(wrong, []api.Term{tuple(num(1), pid("n@h", 1, 2, 3), api.Term{})}) {
		t.Error("Put changes what it refuses")
	}
	scribble(wrong)
	if !sample.IsFault(err, api.Fault{Layer: "mail", Code: api.ErrTerm}, api.Fault{Layer: "term", At: 3, Code: api.ErrTerm}) {
		t.Error(err)
	}
}

// Rule 4: one memory that is put twice, and put into two boxes, is three messages.
func TestOneArgumentTwice(t *testing.T) {
	x := parts()[0]
	a, b := open(t, 0, x, x), open(t, 0, x)
	for _, box := range []*mail.Box{a, b} {
		got, err := box.Take()
		done(t, "Take", err)
		scribble([]api.Term{got})
	}
	shows(t, "the second one", a, view{messages: parts()[:1]})
	if !sample.Same(x, parts()[0]) {
		t.Error("what was given is what was taken")
	}
}

// Rule 4: who changes an answer changes nothing in the box, and in no other answer.
func TestAnswersShareNothing(t *testing.T) {
	for place := range parts() {
		b := open(t, place, parts()...)
		one, two, before := b.All(), b.All(), b.All()
		first, _ := b.Peek()
		second, _ := b.Peek()
		scribble(one)
		scribble([]api.Term{first})
		if !same(two, parts()) || !sample.Same(second, parts()[place]) {
			t.Fatal("an answer is memory of another one")
		}
		shows(t, "answers that are written over", b, view{messages: parts(), cursor: place})

		taken, err := b.Take()
		done(t, "Take", err)
		scribble(two)
		scribble([]api.Term{second})
		left := b.All()
		if !sample.Same(taken, parts()[place]) {
			t.Fatal("what is taken is memory of another answer")
		}
		scribble([]api.Term{taken})
		if !same(before, parts()) || !same(left, without(parts(), place)) {
			t.Fatal("another answer is memory of what is taken")
		}
		shows(t, "what is taken is written over", b, view{messages: without(parts(), place)})
		done(t, "Put", b.Put(word("new")))
		if !same(before, parts()) || !same(left, without(parts(), place)) {
			t.Fatal("Put changes answers")
		}
	}
}

// Rule 4: elements of one answer share nothing with each other.
func TestElementsShareNothing(t *testing.T) {
	x := parts()[3]
	all := open(t, 0, x, x, x).All()
	for place := range all {
		scribble(all[place].Args)
		for _, y := range all[place+1:] {
			if !sample.Same(y, parts()[3]) {
				t.Fatal("elements of an answer share memory")
			}
		}
	}
}

// Rule 4: an answer that grows, grows into no box.
func TestAnswersGrow(t *testing.T) {
	b := open(t, 0, row(1, 5)...)
	takes(t, b, num(1))
	all := b.All()
	_ = append(all[:2], word("grown"))
	_ = append(all, word("grown"))
	shows(t, "grown", b, view{messages: row(2, 5)})
	done(t, "Put", b.Put(num(6)))
	shows(t, "Put", b, view{messages: row(2, 6)})
}
