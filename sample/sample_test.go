package sample_test

import (
	"slices"
	"testing"

	"heddle/api"
	"heddle/sample"
)

func TestSame(t *testing.T) {
	all := []api.Term{
		{}, sample.Int(1), sample.Int(2), sample.Atom("a"), sample.Atom("b"), sample.Nil(),
		sample.Ref("n@h", 1, 2, 3, 4), sample.Ref("n@h", 2, 2, 3, 4), sample.Ref("m@h", 1, 2, 3, 4), sample.Ref("n@h", 1, 2, 3, 5), sample.Pid("n@h", 1, 2, 3),
		sample.Tuple(), sample.Tuple(sample.Int(1)), sample.Tuple(sample.Int(2)), sample.Tuple(sample.Ones(2)...),
		sample.List(sample.Int(1), sample.Nil()), sample.Chain(2, sample.Int(1)),
	}
	for i, a := range all {
		for j, b := range all {
			if sample.Same(a, b) != (i == j) {
				t.Errorf("Same(%v, %v) = %v", a, b, i != j)
			}
		}
		if sample.IsZero(a) != (i == 0) {
			t.Errorf("IsZero(%v) = %v", a, i != 0)
		}
	}
	if !sample.Same(sample.Tuple(), api.Term{Kind: api.KTuple, Args: []api.Term{}, Nums: []uint32{}}) {
		t.Error("nil and empty lists are not the same")
	}
}

func TestSameEvent(t *testing.T) {
	all := []api.Event{
		{}, {Kind: api.EvYield}, {Name: "!"}, {Args: sample.Ones(1)}, {Args: []api.Term{sample.Int(2)}}, {Reason: sample.Int(1)}, {Reason: sample.Int(2)}, {Until: 1}, {Timed: true}, {Used: 1},
	}
	for i, a := range all {
		for j, b := range all {
			if sample.SameEvent(a, b) != (i == j) {
				t.Errorf("SameEvent(%v, %v) = %v", a, b, i != j)
			}
		}
	}
	if !sample.SameEvent(api.Event{}, api.Event{Args: []api.Term{}}) {
		t.Error("nil and empty lists are not the same")
	}
}

func TestKeepsNothing(t *testing.T) {
	args, nums := sample.Ones(2), []uint32{1, 2}
	x, y := sample.Tuple(args...), sample.Pid("n@h", 1, nums...)
	args[0], nums[0] = sample.Nil(), 9
	if !sample.Same(x, sample.Tuple(sample.Int(1), sample.Int(1))) || !sample.Same(y, sample.Pid("n@h", 1, 1, 2)) {
		t.Errorf("%v, %v", x, y)
	}
}

func TestScribble(t *testing.T) {
	mark := sample.Atom("scribbled")
	nums, args := []uint32{1, 2, 3}, []api.Term{sample.Int(1), {Kind: api.KPid, Nums: []uint32{5, 6}}, sample.Int(2)}
	inner := args[1].Nums
	sample.Scribble(api.Term{Nums: nums[:1], Args: args[:2]})
	if !slices.Equal(nums, []uint32{77, 77, 77}) || !slices.Equal(inner, []uint32{77, 77}) || !slices.EqualFunc(args, []api.Term{mark, mark, mark}, sample.Same) {
		t.Errorf("%v, %v, %v", nums, inner, args)
	}
	sample.Scribble(api.Term{})
}

func TestRoomy(t *testing.T) {
	were := func() []api.Term {
		return []api.Term{sample.Tuple(sample.Pid("n@h", 1, 2, 3), sample.Tuple()), {Kind: api.KTuple, Args: []api.Term{}}, sample.Int(1)}
	}
	given := were()
	x := sample.Roomy(given)
	sample.Scribble(api.Term{Args: given})
	if !sample.Untouched(x, were()) || sample.Untouched(x, were()[:2]) || sample.Untouched(x, given) {
		t.Error("terms of which nothing was changed")
	}
	if !sample.Untouched(sample.Roomy(nil), nil) {
		t.Error("no terms")
	}
	for place, touch := range []func(x []api.Term){
		func(x []api.Term) { x[0].Args[0].Nums[1] = 9 },
		func(x []api.Term) { _ = append(x[0].Args[0].Nums, 9) },
		func(x []api.Term) { _ = append(x[0].Args, sample.Int(9)) },
		func(x []api.Term) { _ = append(x[1].Args, sample.Int(9)) },
		func(x []api.Term) { _ = append(x, sample.Int(9)) },
		func(x []api.Term) { x[2].Int = 9 },
	} {
		y := sample.Roomy(were())
		touch(y)
		if sample.Untouched(y, were()) {
			t.Errorf("what the function %d changes is not seen", place)
		}
	}
}

func TestIsFault(t *testing.T) {
	inner, outer := api.Fault{Layer: "atom", At: 2, Code: api.ErrUTF}, api.Fault{Layer: "term", At: 1, Code: api.ErrUTF}
	wrapped := outer
	wrapped.Under = &inner
	if !sample.IsFault(nil) || !sample.IsFault(&inner, inner) || !sample.IsFault(&wrapped, outer, inner) {
		t.Error("a chain is not found")
	}
	if sample.IsFault(&inner) || sample.IsFault(nil, inner) || sample.IsFault(&inner, outer) || sample.IsFault(&wrapped, outer) || sample.IsFault(&outer, outer, inner) || sample.IsFault(api.ErrUTF, inner) {
		t.Error("a chain is found that is not there")
	}
	for _, other := range []api.Fault{{Layer: "term", At: 2, Code: api.ErrUTF}, {Layer: "atom", At: 1, Code: api.ErrUTF}, {Layer: "atom", At: 2, Code: api.ErrLong}} {
		if sample.IsFault(&inner, other) {
			t.Errorf("%v is taken for %v", inner, other)
		}
	}
}
