package dist

import (
	"slices"

	"heddle/api"
	"heddle/term"
)

func isTerm(t api.Term) bool { return term.Check(t) == nil }

func isNoTerm(t api.Term) bool { return !isTerm(t) }

func isPid(t api.Term) bool { return t.Kind == api.KPid && isTerm(t) }

// isNumber tells whether a term is an int within bounds.
func isNumber(t api.Term, low, high int64) bool {
	return t.Kind == api.KInt && low <= t.Int && t.Int <= high
}

func number(n int64) api.Term { return api.Term{Kind: api.KInt, Int: n} }

func symbol(s string) api.Term { return api.Term{Kind: api.KAtom, Text: s} }

// tuple is the one of terms that are handed in one by one.
func tuple(elements ...api.Term) api.Term { return api.Term{Kind: api.KTuple, Args: elements} }

// list is the proper list of elements.
func list(elements []api.Term) api.Term {
	end := api.Term{Kind: api.KNil}
	if len(elements) == 0 {
		return end
	}
	return api.Term{Kind: api.KList, Args: append(slices.Clone(elements), end)}
}

// split is the elements of a proper list, and whether a term is one.
func split(t api.Term) ([]api.Term, bool) {
	switch t.Kind {
	case api.KNil:
		return nil, true
	case api.KList:
		last := len(t.Args) - 1
		return t.Args[:last:last], t.Args[last].Kind == api.KNil
	}
	return nil, false
}
