package dist

import (
	"testing"

	"heddle/api"
	"heddle/etf"
	"heddle/sample"
)

// long is a tuple of just that many bytes on the wire, about as many as there may be.
func long(t *testing.T, length int) api.Term {
	t.Helper()
	var args []api.Term
	left := length - 1 - 5
	for ; left > 300; left -= 257 {
		args = append(args, symbol(string(make([]byte, 255))))
	}
	for ; left > 3; left -= 2 {
		args = append(args, number(1))
	}
	if left == 3 {
		args = append(args, symbol("a"))
	} else {
		args = append(args, number(1))
	}
	x := tuple(args...)
	if n, err := etf.Length(x); n != length || err != nil {
		t.Fatalf("%d bytes, %v", n, err)
	}
	return x
}

// P9.3: no signal is as great as that, but a body may not be longer than MaxFrame. The control message's fault is ahead of the message's.
func TestBody(t *testing.T) {
	whole, less, wide := long(t, api.MaxTermBytes), long(t, api.MaxTermBytes-1), number(1<<31)
	for _, terms := range [][]api.Term{{whole, less}, {less, whole}} {
		if b, err := body(terms...); len(b) != api.MaxFrame || err != nil {
			t.Errorf("%d bytes, %v", len(b), err)
		}
	}
	for _, c := range []struct {
		terms  []api.Term
		faults []api.Fault
	}{
		{[]api.Term{whole, whole}, []api.Fault{{Layer: "dist", Code: api.ErrLong}}},
		{[]api.Term{wide, wide}, []api.Fault{{Layer: "dist", Code: api.ErrWire}, {Layer: "etf", Code: api.ErrWire}}},
		{[]api.Term{wide, {}}, []api.Fault{{Layer: "dist", Code: api.ErrWire}, {Layer: "etf", Code: api.ErrWire}}},
		{[]api.Term{{}, wide}, []api.Fault{{Layer: "dist", Code: api.ErrTerm}, {Layer: "etf", Code: api.ErrTerm}, {Layer: "term", Code: api.ErrTerm}}},
		{[]api.Term{whole, wide}, []api.Fault{{Layer: "dist", At: 1, Code: api.ErrWire}, {Layer: "etf", Code: api.ErrWire}}},
	} {
		if b, err := body(c.terms...); len(b) > 0 || !sample.IsFault(err, c.faults...) {
			t.Errorf("%d bytes, %v, want %v", len(b), err, c.faults)
		}
	}
}

// What is told of a kind fits the control message that it makes: what Check takes, Decode would.
func TestFieldsFitThemselves(t *testing.T) {
	s := api.Sig{From: sample.Pid("a@h", 1, 5, 0), To: sample.Pid("b@h", 1, 7, 0), Ref: sample.Ref("a@h", 1, 1, 2, 3), ID: 1, Reason: symbol("r")}
	for f := fieldFrom; f <= fieldFlags; f++ {
		if x := f.term(s); !f.fits(x) || isNoTerm(x) {
			t.Errorf("field %d: %v", f, x)
		}
	}
}
