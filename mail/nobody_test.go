package mail_test

import (
	"testing"

	"heddle/api"
	"heddle/mail"
	"heddle/sample"
)

// nothing: every call of the box refuses with ErrZero, whatever else applies, or tells nothing.
func nothing(t *testing.T, what string, b *mail.Box) {
	t.Helper()
	for _, x := range kinds() {
		refused(t, what+": Put", b.Put(x), api.ErrZero)
	}
	for _, wrong := range wrongTerms() {
		refused(t, what+": Put", b.Put(wrong.Value), api.ErrZero)
	}
	refused(t, what+": Next", b.Next(), api.ErrZero)
	x, err := b.Take()
	refused(t, what+": Take", err, api.ErrZero)
	if !sample.IsZero(x) {
		t.Errorf("%s: Take() = %v", what, x)
	}
	if x, ok := b.Peek(); ok || !sample.IsZero(x) {
		t.Errorf("%s: Peek() = %v, %t", what, x, ok)
	}
	for _, now := range append(noClocks, clocks...) {
		for _, x := range append(append(append(spans(), endless()...), naughts()...), noTimes()...) {
			ok, err := b.Wait(now, x)
			refused(t, what+": Wait", err, api.ErrZero)
			if ok {
				t.Errorf("%s: Wait(%d, %v) is true", what, now, x)
			}
		}
		over, err := b.Expire(now)
		refused(t, what+": Expire", err, api.ErrZero)
		if over {
			t.Errorf("%s: Expire(%d) is true", what, now)
		}
	}
	shows(t, what, b, view{})
}

// All calls: of a box that is nil, that was made by hand, or copied by hand.
func TestNobodysBox(t *testing.T) {
	nothing(t, "nil", nil)
	nothing(t, "new", new(mail.Box))
	nothing(t, "literal", &mail.Box{})
	for _, deadline := range []int{0, 15} {
		for cursor := range 4 {
			b := timed(t, open(t, cursor, row(1, 3)...), deadline)
			copied := *b
			before := look(t, b)
			nothing(t, "copied", &copied)
			shows(t, "the box that was copied", b, before)
		}
		empty := timed(t, mail.New(), deadline)
		copied := *empty
		nothing(t, "copied when it was empty", &copied)
	}
}

// A box over which another one is laid by hand is nobody's either.
func TestOverwrittenBox(t *testing.T) {
	a, b := open(t, 0, row(1, 3)...), open(t, 1, row(4, 6)...)
	*a = *b
	nothing(t, "overwritten", a)
	shows(t, "the other one", b, view{messages: row(4, 6), cursor: 1})
	*b = mail.Box{}
	nothing(t, "emptied by hand", b)
}
