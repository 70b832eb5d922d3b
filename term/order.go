package term

import (
	"cmp"
	"slices"

	"heddle/api"
	"heddle/atom"
)

// Compare is the order of terms: -1, 0, 1.
func Compare(a, b api.Term) int {
	if Check(a) != nil || Check(b) != nil {
		return 0
	}
	return order(a, b)
}

// Equal tells whether two terms are the same.
func Equal(a, b api.Term) bool {
	return Check(a) == nil && Check(b) == nil && order(a, b) == 0
}

func order(a, b api.Term) int {
	if a.Kind != b.Kind {
		return cmp.Compare(a.Kind, b.Kind)
	}
	switch a.Kind {
	case api.KInt:
		return cmp.Compare(a.Int, b.Int)
	case api.KTuple:
		return cmp.Or(cmp.Compare(len(a.Args), len(b.Args)), slices.CompareFunc(a.Args, b.Args, order))
	case api.KList:
		return orderLists(a.Args, b.Args)
	}
	// An atom has neither creation nor numbers, the empty list not even a text: there they are the same.
	return cmp.Or(atom.Compare(a.Text, b.Text), cmp.Compare(a.Creation, b.Creation), slices.Compare(a.Nums, b.Nums))
}

// orderLists takes the Args of two lists.
func orderLists(a, b []api.Term) int {
	elements := min(len(a), len(b)) - 1
	if c := slices.CompareFunc(a[:elements], b[:elements], order); c != 0 {
		return c
	}
	if len(a) == len(b) {
		return order(a[elements], b[elements])
	}
	// A tail is no list, so it is ahead of what is left of the longer one.
	return cmp.Compare(len(a), len(b))
}
