package sample

import (
	"strings"

	"heddle/api"
)

// NoTerm is a value that is no term, and why: the chain of faults that package term tells of it, the outermost one ahead.
type NoTerm struct {
	Value api.Term
	Chain []api.Fault
}

// Under is a chain of faults under one more, of that layer and at that place, that has the number of the chain.
func Under(layer string, at int, chain []api.Fault) []api.Fault {
	return append([]api.Fault{{Layer: layer, At: at, Code: chain[0].Code}}, chain...)
}

// Itself is a tuple that is its own first part. It is no term, either, but whoever goes through its parts or copies them does not end.
func Itself() api.Term {
	args := make([]api.Term, 1)
	args[0] = api.Term{Kind: api.KTuple, Args: args}
	return args[0]
}

// NoTerms have each fault that a term may have, at the first part and at later ones.
func NoTerms() []NoTerm {
	at := func(place int, code api.Errno, value api.Term) NoTerm {
		return NoTerm{value, []api.Fault{{Layer: "term", At: place, Code: code}}}
	}
	atom := func(place int, code api.Errno, in int, value api.Term) NoTerm {
		return NoTerm{value, Under("term", place, []api.Fault{{Layer: "atom", At: in, Code: code}})}
	}
	return []NoTerm{
		at(0, api.ErrTerm, api.Term{}), at(0, api.ErrTerm, api.Term{Kind: 8}), at(0, api.ErrTerm, api.Term{Kind: -1}),
		at(0, api.ErrTerm, api.Term{Kind: api.KInt, Int: 1, Text: "x"}), at(0, api.ErrTerm, api.Term{Kind: api.KInt, Args: Ones(1)}),
		at(0, api.ErrTerm, api.Term{Kind: api.KAtom, Text: "x", Int: 1}), at(0, api.ErrTerm, api.Term{Kind: api.KAtom, Text: "x", Creation: 1}), at(0, api.ErrTerm, api.Term{Kind: api.KAtom, Text: "x", Args: Ones(1)}),
		at(0, api.ErrTerm, api.Term{Kind: api.KNil, Nums: []uint32{0}}), at(0, api.ErrTerm, Pid("n@h", 1, 2)), at(0, api.ErrTerm, Ref("n@h", 1, 2, 3)),
		at(0, api.ErrTerm, List(Int(1))), at(0, api.ErrTerm, List()), at(0, api.ErrTerm, List(Int(1), List(Int(2), Nil()))),
		at(4, api.ErrTerm, Tuple(Int(1), Tuple(Int(2), api.Term{}))), at(2, api.ErrTerm, Tuple(Int(1), api.Term{Kind: api.KNil, Args: Ones(1)})), at(2, api.ErrTerm, Tuple(Int(1), List(Int(2)))),
		at(0, api.ErrRange, Int(api.MinInt-1)), at(0, api.ErrRange, Int(api.MaxInt+1)), at(2, api.ErrRange, List(Int(1), Int(1<<62))),
		at(api.MaxSize, api.ErrMany, Tuple(Ones(api.MaxSize)...)), at(api.MaxDepth, api.ErrDeep, Chain(api.MaxDepth, Int(1))),
		atom(0, api.ErrLong, 0, Atom(strings.Repeat("a", api.MaxAtom+1))), atom(0, api.ErrUTF, 0, Atom("\xff")), atom(1, api.ErrUTF, 1, Tuple(Atom("a\xff"))),
		atom(0, api.ErrName, 0, Pid("h", 1, 5, 0)), atom(2, api.ErrName, 0, Tuple(Int(1), Pid("n", 1, 2, 3))),
	}
}
