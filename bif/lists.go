package bif

import (
	"slices"
	"strings"
	"unicode/utf8"

	"heddle/api"
	"heddle/term"
)

// combine is an operator of lists.
func combine(name string, a, b api.Term) (api.Term, api.Errno) {
	front, proper := elements(a)
	if !proper {
		return api.Term{}, api.ErrBadarg
	}
	if name == "++" {
		return list(front, b), api.OK
	}
	away, proper := elements(b)
	if !proper {
		return api.Term{}, api.ErrBadarg
	}
	return properList(without(front, away)), api.OK
}

// without is the terms of one row but, for each of another row, the first that is equal to it and still there. Terms are equal just where their texts are, so that each is looked at once.
func without(row, away []api.Term) []api.Term {
	times := map[string]int{}
	for _, t := range away {
		times[textOf(t)]++
	}
	var left []api.Term
	for _, t := range row {
		if key := textOf(t); times[key] > 0 {
			times[key]--
		} else {
			left = append(left, t)
		}
	}
	return left
}

// textOf is the text of a part of a term, so Print does not refuse it.
func textOf(t api.Term) string {
	s, _ := term.Print(t)
	return s
}

// part is a list's first element, or what is left of it.
func part(name string, t api.Term) (api.Term, api.Errno) {
	head, rest, there := term.Split(t)
	if !there {
		return api.Term{}, api.ErrBadarg
	}
	if name == "hd" {
		return head, api.OK
	}
	return rest, api.OK
}

// ofList is a function of one proper list.
func ofList(name string, t api.Term) (api.Term, api.Errno) {
	row, proper := elements(t)
	if !proper {
		return api.Term{}, api.ErrBadarg
	}
	switch name {
	case "length":
		return number(int64(len(row))), api.OK
	case "list_to_tuple":
		return tuple(row), api.OK
	}
	s, written := write(row)
	if !written {
		return api.Term{}, api.ErrBadarg
	}
	if name == "list_to_integer" {
		return readInt(s)
	}
	return symbol(s), api.OK
}

// ofTuple is a function of one tuple.
func ofTuple(name string, t api.Term) (api.Term, api.Errno) {
	if t.Kind != api.KTuple {
		return api.Term{}, api.ErrBadarg
	}
	if name == "tuple_size" {
		return number(int64(len(t.Args))), api.OK
	}
	return properList(t.Args), api.OK
}

// atPlace is a tuple's element, by its number from 1 on; or, if something is handed in for it, the tuple with that in its place.
func atPlace(n, t api.Term, what ...api.Term) (api.Term, api.Errno) {
	if n.Kind != api.KInt || t.Kind != api.KTuple || n.Int < 1 || n.Int > int64(len(t.Args)) {
		return api.Term{}, api.ErrBadarg
	}
	place := int(n.Int) - 1
	if len(what) == 0 {
		return t.Args[place], api.OK
	}
	row := slices.Clone(t.Args)
	row[place] = what[0]
	return tuple(row), api.OK
}

// elements are those of a proper list; and whether a term is one.
func elements(t api.Term) ([]api.Term, bool) {
	switch t.Kind {
	case api.KNil:
		return nil, true
	case api.KList:
		last := len(t.Args) - 1
		return t.Args[:last], t.Args[last].Kind == api.KNil
	}
	return nil, false
}

func properList(row []api.Term) api.Term { return list(row, api.Term{Kind: api.KNil}) }

// list is the one of elements ahead of a tail: a list there goes on with them.
func list(row []api.Term, tail api.Term) api.Term {
	if len(row) == 0 {
		return tail
	}
	behind := []api.Term{tail}
	if tail.Kind == api.KList {
		behind = tail.Args
	}
	return api.Term{Kind: api.KList, Args: slices.Concat(row, behind)}
}

func tuple(row []api.Term) api.Term { return api.Term{Kind: api.KTuple, Args: row} }

// points is the proper list of a text's code points.
func points(s string) api.Term {
	var row []api.Term
	for _, r := range s {
		row = append(row, number(int64(r)))
	}
	return properList(row)
}

// write is the text of a row of code points; and whether they all are some.
func write(row []api.Term) (string, bool) {
	var out strings.Builder
	for _, t := range row {
		if isNoInt(t) || t.Int != int64(rune(t.Int)) || !utf8.ValidRune(rune(t.Int)) {
			return "", false
		}
		out.WriteRune(rune(t.Int))
	}
	return out.String(), true
}
