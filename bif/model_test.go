package bif_test

import (
	"math/big"
	"regexp"
	"slices"
	"testing"

	"heddle/api"
	"heddle/bif"
	"heddle/sample"
	"heddle/term"
)

// told is what the chapter says that a call of terms comes to: a term, or a number.
type told struct {
	t    api.Term
	code api.Errno
}

var (
	badarith = told{code: api.ErrBadarith}
	badarg   = told{code: api.ErrBadarg}
	limit    = told{code: api.ErrLimit}
)

// whole is an int without bound.
func whole(n *big.Int) told {
	if n.Cmp(big.NewInt(api.MinInt)) < 0 || n.Cmp(big.NewInt(api.MaxInt)) > 0 {
		return limit
	}
	return told{t: num(n.Int64())}
}

func yes(b bool) told {
	if b {
		return told{t: word("true")}
	}
	return told{t: word("false")}
}

// made is a term, if it is within the limits.
func made(t api.Term) told {
	if size, depth := extent(t); size > api.MaxSize || depth > api.MaxDepth {
		return limit
	}
	return told{t: t}
}

func extent(t api.Term) (size, depth int) {
	for _, arg := range t.Args {
		s, d := extent(arg)
		size, depth = size+s, max(depth, d)
	}
	return size + 1, depth + 1
}

// tell is a call of bif.All's functions told once more: ints without bound, lists element by element.
func tell(name string, args ...api.Term) told {
	switch name {
	case "+", "-", "*", "div", "rem":
		return tellInts(name, args)
	case "and", "or", "xor", "not":
		return tellBooleans(name, args)
	case "==", "=:=":
		return yes(term.Equal(args[0], args[1]))
	case "/=", "=/=":
		return yes(!term.Equal(args[0], args[1]))
	case "<":
		return yes(term.Compare(args[0], args[1]) == -1)
	case ">":
		return yes(term.Compare(args[0], args[1]) == 1)
	case "=<":
		return yes(term.Compare(args[0], args[1]) != 1)
	case ">=":
		return yes(term.Compare(args[0], args[1]) != -1)
	case "max":
		return told{t: slices.MaxFunc(args, term.Compare)}
	case "min":
		return told{t: slices.MinFunc(args, term.Compare)}
	case "++", "--", "length", "hd", "tl", "list_to_tuple", "list_to_integer", "list_to_atom":
		return tellLists(name, args)
	case "element", "setelement", "tuple_size", "tuple_to_list":
		return tellTuples(name, args)
	}
	return tellOne(name, args[0])
}

func tellInts(name string, args []api.Term) told {
	var all []*big.Int
	for _, x := range args {
		if x.Kind != api.KInt {
			return badarith
		}
		all = append(all, big.NewInt(x.Int))
	}
	a, b, zero := all[0], all[len(all)-1], new(big.Int)
	if name == "div" || name == "rem" {
		if b.Sign() == 0 {
			return badarith
		}
		quotient, rest := new(big.Int).QuoRem(a, b, new(big.Int))
		if name == "div" {
			return whole(quotient)
		}
		return whole(rest)
	}
	switch name + []string{"", " one", ""}[len(args)] {
	case "+ one":
		return whole(a)
	case "- one":
		return whole(zero.Neg(a))
	case "+":
		return whole(zero.Add(a, b))
	case "-":
		return whole(zero.Sub(a, b))
	}
	return whole(zero.Mul(a, b))
}

func tellBooleans(name string, args []api.Term) told {
	row := ""
	for _, x := range args {
		switch {
		case sample.Same(x, word("true")):
			row += "1"
		case sample.Same(x, word("false")):
			row += "0"
		default:
			return badarg
		}
	}
	// Of which rows each one is true.
	return yes(slices.Contains(map[string][]string{"not": {"0"}, "and": {"11"}, "or": {"01", "10", "11"}, "xor": {"01", "10"}}[name], row))
}

// elements and the tail of a list; of all else no element, and itself.
func elements(t api.Term) ([]api.Term, api.Term) {
	if t.Kind != api.KList {
		return nil, t
	}
	last := len(t.Args) - 1
	return t.Args[:last:last], t.Args[last]
}

func tellLists(name string, args []api.Term) told {
	row, tail := elements(args[0])
	if name == "hd" || name == "tl" {
		if len(row) == 0 {
			return badarg
		}
		if name == "hd" {
			return told{t: row[0]}
		}
		return told{t: joined(row[1:], tail)}
	}
	if tail.Kind != api.KNil {
		return badarg
	}
	switch name {
	case "++":
		return made(joined(row, args[1]))
	case "--":
		away, end := elements(args[1])
		if end.Kind != api.KNil {
			return badarg
		}
		return told{t: joined(struck(row, away), null())}
	case "length":
		return told{t: num(int64(len(row)))}
	case "list_to_tuple":
		return made(tuple(row...))
	}
	return tellText(name, row)
}

// joined is elements with a tail behind them.
func joined(row []api.Term, tail api.Term) api.Term {
	if len(row) == 0 {
		return tail
	}
	more, end := elements(tail)
	return list(slices.Concat(row, more, []api.Term{end})...)
}

// struck goes by the chapter's words, one element of the second list after the other.
func struck(row, away []api.Term) []api.Term {
	row = slices.Clone(row)
	for _, x := range away {
		if at := slices.IndexFunc(row, func(y api.Term) bool { return term.Equal(x, y) }); at >= 0 {
			row = slices.Delete(row, at, at+1)
		}
	}
	return row
}

var numeral = regexp.MustCompile(`^[-+]?[0-9]+$`)

// tellText is list_to_integer and list_to_atom.
func tellText(name string, row []api.Term) told {
	var runes []rune
	for _, x := range row {
		if x.Kind != api.KInt || x.Int < 0 || x.Int > 0x10ffff || 0xd800 <= x.Int && x.Int <= 0xdfff {
			return badarg
		}
		runes = append(runes, rune(x.Int))
	}
	text := string(runes)
	if name == "list_to_integer" {
		if !numeral.MatchString(text) {
			return badarg
		}
		n, _ := new(big.Int).SetString(text, 10)
		return whole(n)
	}
	if len(text) > 255 {
		return limit
	}
	return told{t: word(text)}
}

func tellTuples(name string, args []api.Term) told {
	t := args[len(args)-1]
	if len(args) > 1 {
		t = args[1]
	}
	if t.Kind != api.KTuple {
		return badarg
	}
	switch name {
	case "tuple_size":
		return told{t: num(int64(len(t.Args)))}
	case "tuple_to_list":
		return made(proper(t.Args...))
	}
	for i, x := range t.Args {
		if !sample.Same(args[0], num(int64(i+1))) {
			continue
		}
		if name == "element" {
			return told{t: x}
		}
		row := slices.Clone(t.Args)
		row[i] = args[2]
		return made(tuple(row...))
	}
	return badarg
}

// tellOne is the functions of any one term.
func tellOne(name string, x api.Term) told {
	if asked, ok := map[string][]api.Kind{"is_atom": {api.KAtom}, "is_integer": {api.KInt}, "is_list": {api.KNil, api.KList}, "is_pid": {api.KPid}, "is_reference": {api.KRef}, "is_tuple": {api.KTuple}}[name]; ok {
		return yes(slices.Contains(asked, x.Kind))
	}
	var row []api.Term
	switch {
	case name == "is_boolean":
		return yes(show(x) == "true" || show(x) == "false")
	case name == "abs" && x.Kind == api.KInt:
		return whole(new(big.Int).Abs(big.NewInt(x.Int)))
	case name == "node" && (x.Kind == api.KPid || x.Kind == api.KRef):
		return told{t: word(x.Text)}
	case name == "integer_to_list" && x.Kind == api.KInt:
		for _, digit := range []byte(big.NewInt(x.Int).String()) {
			row = append(row, num(int64(digit)))
		}
		return told{t: proper(row...)}
	case name == "atom_to_list" && x.Kind == api.KAtom:
		for _, r := range []rune(x.Text) {
			row = append(row, num(int64(r)))
		}
		return told{t: proper(row...)}
	}
	return badarg
}

// agrees: a call comes to what is told of it; it leaves its arguments as they are, and what it answers shares no memory with them, nor with another answer.
func agrees(t *testing.T, name string, args ...api.Term) {
	t.Helper()
	want := tell(name, args...)
	handed, before := copies(args), copies(args)
	got, err := bif.Call(name, handed...)
	again, _ := bif.Call(name, handed...)
	if !slices.EqualFunc(handed, before, untouched) {
		t.Errorf("%s(%s): the arguments are changed: %s", name, show(args...), show(handed...))
	}
	if want.code != api.OK {
		if !sample.IsFault(err, fault(0, want.code)) || !sample.IsZero(got) {
			t.Errorf("%s(%s) = %s, %v; want %v", name, show(args...), show(got), err, want.code)
		}
		return
	}
	if err != nil || !sample.Same(got, want.t) || term.Check(got) != nil {
		t.Errorf("%s(%s) = %s, %v; want %s", name, show(args...), show(got), err, show(want.t))
	}
	sample.Scribble(again)
	if !slices.EqualFunc(handed, before, untouched) || !sample.Same(got, want.t) {
		t.Errorf("%s(%s): an answer that is changed changes %s, %s", name, show(args...), show(handed...), show(got))
	}
	for _, x := range handed {
		sample.Scribble(x)
	}
	if !sample.Same(got, want.t) {
		t.Errorf("%s(%s): arguments that are changed change the answer: %s", name, show(args...), show(got))
	}
}

// rows goes through all rows of so many of some terms.
func rows(terms []api.Term, n int, visit func(row []api.Term)) {
	if n == 0 {
		visit(nil)
		return
	}
	rows(terms, n-1, func(row []api.Term) {
		for _, x := range terms {
			visit(append(slices.Clone(row), x))
		}
	})
}
