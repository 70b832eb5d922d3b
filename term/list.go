package term

import (
	"slices"

	"heddle/api"
)

// Cons is the list of a head and a tail.
func Cons(head, tail api.Term) (api.Term, error) {
	if err := Check(head); err != nil {
		return api.Term{}, err
	}
	if err := Check(tail); err != nil {
		return api.Term{}, err
	}
	list := join([]api.Term{head}, tail)
	if err := Check(list); err != nil {
		return api.Term{}, err
	}
	return Copy(list), nil
}

// join is the list of elements with a tail behind them: a list there goes on with them.
func join(elements []api.Term, tail api.Term) api.Term {
	if tail.Kind == api.KList {
		return api.Term{Kind: api.KList, Args: append(elements, tail.Args...)}
	}
	return api.Term{Kind: api.KList, Args: append(elements, tail)}
}

// Split is a list's first element, and what is left.
func Split(t api.Term) (api.Term, api.Term, bool) {
	if t.Kind != api.KList || len(t.Args) < 2 {
		return api.Term{}, api.Term{}, false
	}
	rest := t.Args[1]
	if len(t.Args) > 2 {
		rest = api.Term{Kind: api.KList, Args: t.Args[1:]}
	}
	return Copy(t.Args[0]), Copy(rest), true
}

// Copy is the same in new memory.
func Copy(t api.Term) api.Term {
	t.Nums = slices.Clone(t.Nums)
	t.Args = slices.Clone(t.Args)
	for i, arg := range t.Args {
		t.Args[i] = Copy(arg)
	}
	return t
}
