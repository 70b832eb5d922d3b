package mail_test

import (
	"reflect"
	"testing"

	"heddle/api"
	"heddle/mail"
	"heddle/sample"
	"heddle/term"
)

// The chapter's examples.
func TestExamples(t *testing.T) {
	b := open(t, 1, word("a"), word("b"))
	takes(t, b, word("b"))
	if x, ok := b.Peek(); !ok || !sample.Same(x, word("a")) {
		t.Errorf("Peek() = %v, %t", x, ok)
	}
	done(t, "Next", b.Next())
	refused(t, "Next", b.Next(), api.ErrNone)

	b = mail.New()
	waiting := view{deadline: 15, set: true}
	waits(t, "example 2", b, 10, num(5), true, waiting)
	waits(t, "example 2", b, 12, num(100), true, waiting)
	expires(t, "example 2", b, 14, false, waiting)
	expires(t, "example 2", b, 15, true, view{})
	_, err := b.Wait(10, word("foo"))
	refused(t, "Wait", err, api.ErrTimeout)
}

// P17.1: a box that was made has no message and no deadline, and its cursor is at the first place.
func TestNew(t *testing.T) {
	a, b := mail.New(), mail.New()
	if a == nil || b == nil || a == b {
		t.Fatal("New makes no box of its own")
	}
	shows(t, "New", a, view{})
	done(t, "Put", a.Put(num(1)))
	timed(t, a, 5)
	shows(t, "another box", b, view{})
}

// P17.1: what is put stands behind all others, wherever the cursor is; neither that nor a deadline moves.
func TestPut(t *testing.T) {
	for _, deadline := range []int{0, 15} {
		for cursor := range 4 {
			b := timed(t, open(t, cursor, row(1, 3)...), deadline)
			want := row(1, 3)
			for _, x := range kinds() {
				done(t, "Put", b.Put(x))
				want = append(want, x)
				shows(t, "Put", b, view{want, cursor, deadline, deadline != 0})
			}
			done(t, "Put once more", b.Put(want[0]))
			shows(t, "Put once more", b, view{append(want, want[0]), cursor, deadline, deadline != 0})
		}
	}
}

// refusesWrong: a box refuses all that is no term, with the fault of package term under, and stays as it is.
func refusesWrong(t *testing.T, b *mail.Box) {
	t.Helper()
	before := look(t, b)
	for _, wrong := range wrongTerms() {
		err := b.Put(wrong.Value)
		chain := sample.Under("mail", 0, wrong.Chain)
		if !sample.IsFault(err, chain...) {
			t.Errorf("Put: %v, want %+v", err, chain)
			continue
		}
		if under := err.(*api.Fault).Under; !reflect.DeepEqual(under, term.Check(wrong.Value)) {
			t.Errorf("Put: %v lies under, but Check says %v", under, term.Check(wrong.Value))
		}
	}
	shows(t, "Put of no terms", b, before)
}

// P17.1: what is no term is refused, in a box without messages, with some, and with as many as may be.
func TestPutOfNoTerm(t *testing.T) {
	refusesWrong(t, mail.New())
	for cursor := range 3 {
		refusesWrong(t, timed(t, open(t, cursor, row(1, 2)...), 15*cursor))
	}
	refusesWrong(t, timed(t, open(t, 100, row(1, api.MaxMailbox)...), 15))
}

// P17.1: MaxMailbox messages are as many as may be; one that is taken makes room for another one.
func TestPutAtTheLimit(t *testing.T) {
	const most = api.MaxMailbox
	for _, cursor := range []int{0, 1, most / 2, most - 1} {
		b := timed(t, open(t, cursor, row(1, most-1)...), 15)
		shows(t, "one fewer", b, view{row(1, most-1), cursor, 15, true})
		done(t, "Put", b.Put(num(most)))
		full := view{row(1, most), cursor, 15, true}
		shows(t, "full", b, full)
		for _, x := range kinds() {
			refused(t, "Put", b.Put(x), api.ErrMany)
		}
		shows(t, "one more", b, full)

		takes(t, b, num(int64(cursor+1)))
		left := append(row(1, cursor), row(cursor+2, most)...)
		shows(t, "Take", b, view{messages: left})
		done(t, "Put", b.Put(num(most+1)))
		left = append(left, num(most+1))
		shows(t, "full again", b, view{messages: left})
		refused(t, "Put", b.Put(num(most+2)), api.ErrMany)
		shows(t, "one more", b, view{messages: left})
		for _, x := range left {
			takes(t, b, x)
		}
		shows(t, "all taken", b, view{})
	}
}
