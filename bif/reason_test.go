package bif_test

import (
	"errors"
	"fmt"
	"math"
	"strings"
	"testing"

	"heddle/api"
	"heddle/bif"
	"heddle/sample"
	"heddle/term"
)

// P13.3: of terms of each kind only one atom is it.
func TestTrue(t *testing.T) {
	for _, x := range append(kinds(), line()...) {
		if bif.True(x) != sample.Same(x, word("true")) {
			t.Errorf("True(%s) = %v", show(x), bif.True(x))
		}
	}
	for _, text := range []string{"", "t", "tru", "True", "TRUE", "true ", " true", "true\x00", "truetrue", "false", "not false", "1", "\xff", strings.Repeat("true", 100)} {
		if bif.True(word(text)) {
			t.Errorf("True of the atom %q", text)
		}
	}
	if !bif.True(word("true")) || bif.True(api.Term{}) {
		t.Error("True")
	}
}

// P13.3: a value of the atom's kind and text with a field that no atom has is no term, so not the atom true; empty lists are as none (rule 4).
func TestTrueOfNoTerms(t *testing.T) {
	for _, x := range []api.Term{{}, {Nums: []uint32{}}, {Args: []api.Term{}}, {Nums: make([]uint32, 0, 4), Args: make([]api.Term, 0, 4)}} {
		x.Kind, x.Text = api.KAtom, "true"
		if !bif.True(x) {
			t.Errorf("True(%+v) = false", x)
		}
	}
	for _, x := range []api.Term{
		{Int: 1}, {Int: -1}, {Int: api.MinInt}, {Int: api.MaxInt}, {Int: math.MinInt64}, {Int: math.MaxInt64},
		{Creation: 1}, {Creation: math.MaxUint32},
		{Nums: []uint32{0}}, {Nums: []uint32{1, 2}}, {Nums: []uint32{0, 0, 0}}, {Nums: make([]uint32, 5000)},
		{Args: []api.Term{{}}}, {Args: []api.Term{{Kind: api.KNil}}}, {Args: []api.Term{word("true")}}, {Args: make([]api.Term, 5000)},
		{Int: -1, Creation: 1, Nums: []uint32{1}, Args: []api.Term{word("false")}},
	} {
		x.Kind, x.Text = api.KAtom, "true"
		if bif.True(x) {
			t.Errorf("True(%+v) = true", x)
		}
	}
}

// P13.3: the text true of another kind is no atom, whatever else the value has.
func TestTrueOfOtherKinds(t *testing.T) {
	for _, odd := range []api.Term{
		{}, {Int: 5}, {Creation: 7}, {Nums: []uint32{1, 2}}, {Nums: []uint32{}}, {Args: []api.Term{{}}}, {Args: []api.Term{}}, {Int: -1, Creation: 1, Nums: []uint32{1}, Args: []api.Term{word("true")}},
	} {
		for kind := api.Kind(-1); kind < 10; kind++ {
			for _, text := range []string{"true", "false", ""} {
				x := odd
				x.Kind, x.Text = kind, text
				if bif.True(x) && (kind != api.KAtom || text != "true") {
					t.Errorf("True(%+v) = true", x)
				}
			}
		}
	}
}

// reasons: what is seen of an error; "" of nothing.
func reasons(t *testing.T, want string, err error) {
	t.Helper()
	got, ok := bif.Reason(err)
	if want == "" && (ok || !sample.IsZero(got)) || want != "" && (!ok || !sample.Same(got, word(want))) {
		t.Errorf("Reason(%v) = %+v, %v; want %q", err, got, ok, want)
	}
}

// P13.4: what Call answers.
func TestReasonOfCalls(t *testing.T) {
	for _, c := range []struct{ name, args, want string }{
		{"+", "[a, 1]", "badarith"}, {"-", "[a]", "badarith"}, {"div", "[1, 0]", "badarith"}, {"abs", "[a]", "badarg"}, {"hd", "[[]]", "badarg"}, {"not", "[1]", "badarg"}, {"list_to_integer", "[[]]", "badarg"},
		{"-", "[-576460752303423488]", "system_limit"}, {"abs", "[-576460752303423488]", "system_limit"}, {"foo", "[]", "undef"}, {"+", "[1, 2, 3]", "undef"}, {"self", "[]", "undef"}, {"+", "[1, 2]", ""}, {"hd", "[[1]]", ""},
	} {
		args, _ := elements(read(t, c.args))
		_, err := bif.Call(c.name, args...)
		reasons(t, c.want, err)
	}
	_, err := bif.Call("++", proper(ones(4094)...), proper(num(1)))
	reasons(t, "system_limit", err)
	for _, x := range noTerms() {
		_, err := bif.Call("hd", x.t)
		reasons(t, "", err)
		reasons(t, "", term.Check(x.t))
	}
}

// wrapped is an error around another one, which is no fault.
type wrapped struct{ inner error }

func (w *wrapped) Error() string { return "wrapped" }
func (w *wrapped) Unwrap() error { return w.inner }

// claims is an error that says of itself which fault it is.
type claims struct{ fault *api.Fault }

func (c claims) Error() string { return "claims" }
func (c claims) As(target any) bool {
	f, ok := target.(**api.Fault)
	if ok {
		*f = c.fault
	}
	return ok
}

// P13.4: each number, at any place; in errors that wrap it, above what is under it, and in other layers.
func TestReasonNumbers(t *testing.T) {
	known := map[api.Errno]string{api.ErrBadarith: "badarith", api.ErrBadarg: "badarg", api.ErrLimit: "system_limit", api.ErrUndef: "undef"}
	for code := api.Errno(-1); code < 600; code++ {
		want := known[code]
		f := &api.Fault{Layer: "bif", Code: code}
		reasons(t, want, f)
		reasons(t, want, &api.Fault{Layer: "bif", At: 3, Code: code})
		reasons(t, want, &wrapped{f})
		reasons(t, want, &wrapped{&wrapped{f}})
		reasons(t, want, fmt.Errorf("more: %w", f))
		reasons(t, want, errors.Join(errors.New("ahead"), f))
		reasons(t, want, claims{f})
		// The outermost one counts, whatever is under it.
		for _, under := range []error{&api.Fault{Layer: "term", Code: api.ErrTerm}, &api.Fault{Layer: "bif", Code: api.ErrBadarg}, &api.Fault{Layer: "bif", Code: api.ErrTerm}, api.ErrUndef, errors.New("x"), &wrapped{f}} {
			reasons(t, want, &api.Fault{Layer: "bif", Code: code, Under: under})
		}
		// Those of other layers are none of Call's, whatever number they have and whatever is under them.
		for _, layer := range []string{"", "term", "atom", "vm", "match", "Bif", "bif "} {
			reasons(t, "", &api.Fault{Layer: layer, Code: code})
			reasons(t, "", &api.Fault{Layer: layer, Code: code, Under: f})
			reasons(t, "", &api.Fault{Layer: layer, Code: api.ErrAsked, Under: f})
			reasons(t, "", &wrapped{&api.Fault{Layer: layer, Code: code, Under: f}})
		}
		// A number alone is no fault.
		reasons(t, "", code)
		reasons(t, "", &wrapped{code})
	}
}

// P13.4, rule 1: errors that are no faults, none, and such as nobody would make.
func TestReasonOfNothing(t *testing.T) {
	itself := &api.Fault{Layer: "bif", Code: api.ErrBadarg}
	itself.Under = itself
	reasons(t, "badarg", itself)
	var none *api.Fault
	for _, err := range []error{nil, none, errors.New("bif: 0: heddle: errno 261"), &wrapped{}, (*wrapped)(nil), &wrapped{none}, &wrapped{(*wrapped)(nil)}, claims{}, &api.Fault{}, errors.Join(none, nil)} {
		reasons(t, "", err)
	}
}

// Rule 4: an answer that is changed changes nothing in a later one, nor in the error.
func TestReasonIsNew(t *testing.T) {
	_, err := bif.Call("hd", null())
	x, _ := bif.Reason(err)
	sample.Scribble(x)
	x.Text = "scribbled"
	reasons(t, "badarg", err)
	if !sample.IsFault(err, fault(0, api.ErrBadarg)) {
		t.Errorf("%v", err)
	}
	// Nor does an error that is changed.
	var f *api.Fault
	if errors.As(err, &f) {
		f.Code, f.Layer = api.ErrLimit, "scribbled"
	}
	_, err = bif.Call("hd", null())
	reasons(t, "badarg", err)
	// What is under an error is not what was handed in.
	args := []api.Term{tuple(num(1), word("\xff"))}
	_, err = bif.Call("hd", args...)
	args[0].Args[1] = num(2)
	if !errors.Is(err, api.ErrUTF) || len(faults(err)) != 3 {
		t.Errorf("%v", err)
	}
}
