// Package sample makes terms by hand, for tests: right ones and wrong ones, which no other package would make. It also tells terms and faults apart.
package sample

import (
	"errors"
	"slices"

	"heddle/api"
)

// Int is an int.
func Int(n int64) api.Term { return api.Term{Kind: api.KInt, Int: n} }

// Atom is an atom.
func Atom(s string) api.Term { return api.Term{Kind: api.KAtom, Text: s} }

// Ref is a reference.
func Ref(node string, creation uint32, nums ...uint32) api.Term {
	return api.Term{Kind: api.KRef, Text: node, Creation: creation, Nums: slices.Clone(nums)}
}

// Pid is a pid.
func Pid(node string, creation uint32, nums ...uint32) api.Term {
	return api.Term{Kind: api.KPid, Text: node, Creation: creation, Nums: slices.Clone(nums)}
}

// Tuple is a tuple.
func Tuple(args ...api.Term) api.Term { return api.Term{Kind: api.KTuple, Args: slices.Clone(args)} }

// Nil is the empty list.
func Nil() api.Term { return api.Term{Kind: api.KNil} }

// List is the list of elements and, last, the tail.
func List(args ...api.Term) api.Term { return api.Term{Kind: api.KList, Args: slices.Clone(args)} }

// Ones is so many ints.
func Ones(n int) []api.Term { return slices.Repeat([]api.Term{Int(1)}, n) }

// Chain is tuples one within the other, with that term as the innermost part; its depth is n more.
func Chain(n int, inner api.Term) api.Term {
	for range n {
		inner = Tuple(inner)
	}
	return inner
}

// Roomy is the same terms in memory of their own, with room behind all lists that says so: whoever writes there will show it.
func Roomy(terms []api.Term) []api.Term {
	all := make([]api.Term, 0, len(terms)+2)
	for _, t := range terms {
		if t.Nums != nil {
			t.Nums = append(append(make([]uint32, 0, len(t.Nums)+2), t.Nums...), 99, 99)[:len(t.Nums)]
		}
		if t.Args != nil {
			t.Args = Roomy(t.Args)
		}
		all = append(all, t)
	}
	return append(all, Atom("room"), Atom("room"))[:len(terms)]
}

// Untouched tells whether terms are as Roomy made them of those, what lies behind their lists too.
func Untouched(terms, were []api.Term) bool {
	if !slices.EqualFunc(terms, were, Same) {
		return false
	}
	for i, t := range terms {
		if t.Nums != nil && !slices.Equal(t.Nums[len(t.Nums):cap(t.Nums)], []uint32{99, 99}) || t.Args != nil && !Untouched(t.Args, were[i].Args) {
			return false
		}
	}
	return slices.EqualFunc(terms[len(terms):cap(terms)], []api.Term{Atom("room"), Atom("room")}, Same)
}

// Scribble writes over all memory that a term reaches by its lists, what lies unused behind them too: whoever shares it will show it.
func Scribble(t api.Term) {
	nums := t.Nums[:cap(t.Nums)]
	for i := range nums {
		nums[i] = 77
	}
	args := t.Args[:cap(t.Args)]
	for i := range args {
		Scribble(args[i])
		args[i] = Atom("scribbled")
	}
}

// Same tells whether all fields of all parts are the same, nil and empty lists being the same.
func Same(a, b api.Term) bool {
	return a.Kind == b.Kind && a.Int == b.Int && a.Text == b.Text && a.Creation == b.Creation &&
		slices.Equal(a.Nums, b.Nums) && slices.EqualFunc(a.Args, b.Args, Same)
}

// SameEvent tells whether all fields of two events are the same.
func SameEvent(a, b api.Event) bool {
	return a.Kind == b.Kind && a.Name == b.Name && slices.EqualFunc(a.Args, b.Args, Same) && Same(a.Reason, b.Reason) &&
		a.Until == b.Until && a.Timed == b.Timed && a.Used == b.Used
}

// IsZero tells whether it is what stands beside an error.
func IsZero(t api.Term) bool { return Same(t, api.Term{}) }

// IsFault tells whether an error is just this chain of faults, the outermost one ahead; what lies Under each is the next one.
func IsFault(err error, chain ...api.Fault) bool {
	for _, want := range chain {
		var got *api.Fault
		if !errors.As(err, &got) || got.Layer != want.Layer || got.At != want.At || got.Code != want.Code {
			return false
		}
		err = got.Under
	}
	return err == nil
}
