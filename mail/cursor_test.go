package mail_test

import (
	"testing"

	"heddle/api"
	"heddle/mail"
	"heddle/sample"
)

// without is the messages but the one at a place.
func without(messages []api.Term, place int) []api.Term {
	return append(messages[:place:place], messages[place+1:]...)
}

// P17.2: Peek tells the message at the cursor, Next moves the cursor behind it; a deadline stays.
func TestPeekAndNext(t *testing.T) {
	for _, deadline := range []int{0, 15} {
		all := kinds()
		b := timed(t, open(t, 0, all...), deadline)
		for place, x := range all {
			shows(t, "Next", b, view{all, place, deadline, deadline != 0})
			if got, ok := b.Peek(); !ok || !sample.Same(got, x) {
				t.Errorf("Peek() = %v, %t, want %v", got, ok, x)
			}
			done(t, "Next", b.Next())
		}
		shows(t, "behind the last one", b, view{all, len(all), deadline, deadline != 0})
	}
}

// P17.2: Take takes the message at the cursor out, wherever that is; the cursor is at the first place, no deadline is set.
func TestTake(t *testing.T) {
	all := kinds()
	for _, deadline := range []int{0, 15} {
		for place, x := range all {
			b := timed(t, open(t, place, all...), deadline)
			takes(t, b, x)
			left := without(all, place)
			shows(t, "Take", b, view{messages: left})
			if place < len(left) {
				for range place {
					done(t, "Next", b.Next())
				}
				takes(t, b, left[place])
				shows(t, "Take again", b, view{messages: without(left, place)})
			}
		}
	}
}

// nothingThere: there is no message at the cursor; who asks for it is refused, and nothing changes.
func nothingThere(t *testing.T, what string, b *mail.Box) {
	t.Helper()
	before := look(t, b)
	for range 2 {
		if x, ok := b.Peek(); ok || !sample.IsZero(x) {
			t.Errorf("%s: Peek() = %v, %t", what, x, ok)
		}
		refused(t, what+": Next", b.Next(), api.ErrNone)
		x, err := b.Take()
		refused(t, what+": Take", err, api.ErrNone)
		if !sample.IsZero(x) {
			t.Errorf("%s: Take() = %v beside an error", what, x)
		}
		shows(t, what, b, before)
	}
}

// P17.2: an empty box, and one whose cursor stands behind the last message, have none at it.
func TestNoMessageAtTheCursor(t *testing.T) {
	for _, deadline := range []int{0, 1, 15, 2 * api.MaxClock} {
		nothingThere(t, "empty", timed(t, mail.New(), deadline))
		for n := 1; n < 4; n++ {
			nothingThere(t, "behind the last one", timed(t, open(t, n, row(1, n)...), deadline))
		}
		b := open(t, 1, row(1, 2)...)
		takes(t, b, num(2))
		takes(t, b, num(1))
		nothingThere(t, "empty again", timed(t, b, deadline))
		nothingThere(t, "full", timed(t, open(t, api.MaxMailbox, row(1, api.MaxMailbox)...), deadline))
	}
}

// P17.2: a message that is put while the cursor stands behind the last one is the one at the cursor.
func TestPutBehindTheCursor(t *testing.T) {
	for _, deadline := range []int{0, 15} {
		for n := range 4 {
			b := timed(t, open(t, n, row(1, n)...), deadline)
			done(t, "Put", b.Put(word("first")))
			done(t, "Put", b.Put(word("second")))
			all := append(row(1, n), word("first"), word("second"))
			shows(t, "Put", b, view{all, n, deadline, deadline != 0})
			done(t, "Next", b.Next())
			shows(t, "Next", b, view{all, n + 1, deadline, deadline != 0})
			takes(t, b, word("second"))
			shows(t, "Take", b, view{messages: all[:n+1]})
		}
	}
}
