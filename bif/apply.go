package bif

import (
	"slices"

	"heddle/api"
	"heddle/term"
)

// apply is what a function comes to, or the number of its refusal. It is handed terms, as many as the function takes. What it answers may share their memory, and may be beyond the limits of terms.
func apply(name string, args []api.Term) (api.Term, api.Errno) {
	switch name {
	case "+", "-", "*", "div", "rem":
		return reckon(name, args)
	case "and", "or", "xor", "not":
		return decide(name, args)
	case "==", "/=", "=<", "<", ">=", ">", "=:=", "=/=":
		return boolean(holds(name, term.Compare(args[0], args[1]))), api.OK
	case "max", "min":
		return choose(name, args[0], args[1]), api.OK
	case "is_atom", "is_boolean", "is_integer", "is_list", "is_pid", "is_reference", "is_tuple":
		return boolean(is(name, args[0])), api.OK
	case "++", "--":
		return combine(name, args[0], args[1])
	case "hd", "tl":
		return part(name, args[0])
	case "length", "list_to_tuple", "list_to_integer", "list_to_atom":
		return ofList(name, args[0])
	case "element", "setelement":
		return atPlace(args[0], args[1], args[2:]...)
	case "tuple_size", "tuple_to_list":
		return ofTuple(name, args[0])
	case "abs", "integer_to_list":
		return ofInt(name, args[0])
	case "atom_to_list":
		return ofAtom(args[0])
	case "node":
		return ofProcess(args[0])
	}
	return api.Term{}, api.ErrUndef
}

// decide is an operator of booleans. To turn one is to tell whether it is another than true.
func decide(name string, args []api.Term) (api.Term, api.Errno) {
	if slices.ContainsFunc(args, isNoBoolean) {
		return api.Term{}, api.ErrBadarg
	}
	a, b := True(args[0]), True(args[len(args)-1])
	switch name {
	case "and":
		return boolean(a && b), api.OK
	case "or":
		return boolean(a || b), api.OK
	case "not":
		b = true
		fallthrough
	default: // xor
		return boolean(a != b), api.OK
	}
}

// holds tells whether a comparison of two terms holds, by their order.
func holds(name string, order int) bool {
	switch name {
	case "=<":
		return order <= 0
	case "<":
		return order < 0
	case ">=":
		return order >= 0
	case ">":
		return order > 0
	case "==":
		fallthrough
	case "=:=":
		return order == 0
	case "/=":
		fallthrough
	default: // =/=
		return order != 0
	}
}

// choose is the greater one of two terms, or the lesser one.
func choose(name string, a, b api.Term) api.Term {
	order := term.Compare(a, b)
	if name == "max" && order < 0 || name == "min" && order > 0 {
		return b
	}
	return a
}

// is tells whether a term is of the kind that a function asks for.
func is(name string, t api.Term) bool {
	switch name {
	case "is_atom":
		return t.Kind == api.KAtom
	case "is_boolean":
		return !isNoBoolean(t)
	case "is_integer":
		return t.Kind == api.KInt
	case "is_pid":
		return t.Kind == api.KPid
	case "is_reference":
		return t.Kind == api.KRef
	case "is_tuple":
		return t.Kind == api.KTuple
	default: // is_list
		return t.Kind == api.KNil || t.Kind == api.KList
	}
}

// ofAtom is the list of an atom's code points.
func ofAtom(t api.Term) (api.Term, api.Errno) {
	if t.Kind != api.KAtom {
		return api.Term{}, api.ErrBadarg
	}
	return points(t.Text), api.OK
}

// ofProcess is the node of a pid or a reference.
func ofProcess(t api.Term) (api.Term, api.Errno) {
	if t.Kind != api.KPid && t.Kind != api.KRef {
		return api.Term{}, api.ErrBadarg
	}
	return symbol(t.Text), api.OK
}

func isNoBoolean(t api.Term) bool {
	return t.Kind != api.KAtom || t.Text != "true" && t.Text != "false"
}

func boolean(b bool) api.Term {
	if b {
		return symbol("true")
	}
	return symbol("false")
}

func symbol(s string) api.Term { return api.Term{Kind: api.KAtom, Text: s} }
