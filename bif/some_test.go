package bif_test

import (
	"errors"
	"slices"
	"strings"
	"testing"

	"heddle/api"
	"heddle/bif"
	"heddle/sample"
	"heddle/term"
)

var (
	num, word, ref, pid = sample.Int, sample.Atom, sample.Ref, sample.Pid
	tuple, list, null   = sample.Tuple, sample.List, sample.Nil
	ones, chain         = sample.Ones, sample.Chain
)

// proper is the proper list of elements.
func proper(elements ...api.Term) api.Term {
	if len(elements) == 0 {
		return null()
	}
	return list(append(slices.Clone(elements), null())...)
}

// read is a term by its text.
func read(t *testing.T, text string) api.Term {
	t.Helper()
	x, err := term.Read(text)
	if err != nil {
		t.Fatalf("%q: %v", text, err)
	}
	return x
}

// show is a short text of terms, of what is none too.
func show(terms ...api.Term) string {
	var texts []string
	for _, x := range terms {
		s, err := term.Print(x)
		if err != nil {
			s = "no term: " + err.Error()
		}
		if len(s) > 100 {
			s = s[:100] + ".."
		}
		texts = append(texts, s)
	}
	return strings.Join(texts, ", ")
}

// fault is one of this layer, with nothing under it.
func fault(at int, code api.Errno) api.Fault { return api.Fault{Layer: "bif", At: at, Code: code} }

// faults are those of an error, the outermost one ahead, each without what is under it.
func faults(err error) []api.Fault {
	var all []api.Fault
	var f *api.Fault
	for errors.As(err, &f) {
		all = append(all, api.Fault{Layer: f.Layer, At: f.At, Code: f.Code})
		err = f.Under
	}
	return all
}

// comes: a call comes to a term.
func comes(t *testing.T, want api.Term, name string, args ...api.Term) {
	t.Helper()
	got, err := bif.Call(name, args...)
	if err != nil || !sample.Same(got, want) {
		t.Errorf("%s(%s) = %s, %v; want %s", name, show(args...), show(got), err, show(want))
	}
}

// refuses: a call is refused with this number, at 0, with nothing under it and nothing beside it.
func refuses(t *testing.T, code api.Errno, name string, args ...api.Term) {
	t.Helper()
	got, err := bif.Call(name, args...)
	if !sample.IsFault(err, fault(0, code)) || !sample.IsZero(got) {
		t.Errorf("%s(%s) = %s, %v; want %v", name, show(args...), show(got), err, code)
	}
}

// copies are the same terms in memory of their own, with room behind their lists that says so.
func copies(terms []api.Term) []api.Term {
	var all []api.Term
	for _, x := range terms {
		if x.Nums != nil {
			x.Nums = append(make([]uint32, 0, len(x.Nums)+2), x.Nums...)
		}
		if x.Args != nil {
			args := append(copies(x.Args), word("room"), word("room"))
			x.Args = args[:len(x.Args)]
		}
		all = append(all, x)
	}
	return all
}

// untouched: terms are as they were, what lies behind their lists too.
func untouched(a, b api.Term) bool {
	return sample.Same(a, b) && slices.EqualFunc(a.Args[:cap(a.Args)], b.Args[:cap(b.Args)], untouched)
}

// kinds are terms of every kind, some of them such as functions ask for.
func kinds() []api.Term {
	return []api.Term{
		num(0), num(1), num(2), num(-1), num(3), num(api.MinInt), num(api.MaxInt), num(48), num(1<<32 + 1),
		word("true"), word("false"), word("a"), word(""), word("True"), word("é€𝄞"), word("12"),
		ref("n@h", 1, 1, 2, 3), ref("m@h.x-y", 0, 0, 0, 0), pid("n@h", 1, 5, 0), pid("A_1@h", 1<<32-1, 1<<32-1, 0),
		tuple(), tuple(num(1)), tuple(word("a"), word("b")), tuple(tuple(num(1)), null(), list(num(1), num(2))),
		null(), proper(num(1)), proper(num(48), num(49)), proper(num(97), num(233), num(0x10ffff)), proper(num(45), num(57)), proper(num(1), num(2), num(1)), proper(tuple(num(1)), word("a")), proper(null()),
		list(num(1), num(2)), list(num(1), num(2), word("x")), list(null(), tuple()), list(num(49), pid("n@h", 1, 5, 0)),
	}
}

// noTerms are what no call may take, with the faults that are told of each.
func noTerms() []struct {
	t      api.Term
	faults []api.Fault
} {
	one := func(at int, code api.Errno) []api.Fault { return []api.Fault{{Layer: "term", At: at, Code: code}} }
	under := func(at int, code api.Errno, in int) []api.Fault {
		return append(one(at, code), api.Fault{Layer: "atom", At: in, Code: code})
	}
	itself := make([]api.Term, 1)
	itself[0] = api.Term{Kind: api.KTuple, Args: itself}
	return []struct {
		t      api.Term
		faults []api.Fault
	}{
		{api.Term{}, one(0, api.ErrTerm)},
		{api.Term{Kind: 8}, one(0, api.ErrTerm)},
		{api.Term{Kind: -1, Int: 1}, one(0, api.ErrTerm)},
		{api.Term{Kind: api.KInt, Int: 1, Text: "x"}, one(0, api.ErrTerm)},
		{api.Term{Kind: api.KAtom, Text: "true", Int: 1}, one(0, api.ErrTerm)},
		{api.Term{Kind: api.KNil, Args: []api.Term{num(1)}}, one(0, api.ErrTerm)},
		{num(api.MaxInt + 1), one(0, api.ErrRange)},
		{num(api.MinInt - 1), one(0, api.ErrRange)},
		{word("a\xff"), under(0, api.ErrUTF, 1)},
		{word(strings.Repeat("a", 256)), under(0, api.ErrLong, 0)},
		{pid("n@h", 1, 5), one(0, api.ErrTerm)},
		{ref("n@h", 1, 5, 0), one(0, api.ErrTerm)},
		{pid("nh", 1, 5, 0), under(0, api.ErrName, 0)},
		{list(), one(0, api.ErrTerm)},
		{list(num(1)), one(0, api.ErrTerm)},
		{list(num(1), list(num(2), null())), one(0, api.ErrTerm)},
		{proper(num(1), api.Term{}), one(2, api.ErrTerm)},
		{tuple(tuple(), word("\xff"), num(api.MaxInt+1)), under(2, api.ErrUTF, 0)},
		{tuple(ones(api.MaxSize)...), one(api.MaxSize, api.ErrMany)},
		{chain(api.MaxDepth, num(1)), one(api.MaxDepth, api.ErrDeep)},
		{api.Term{Kind: api.KTuple, Args: itself}, one(api.MaxDepth, api.ErrDeep)},
	}
}
