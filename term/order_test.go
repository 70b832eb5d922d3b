package term_test

import (
	"math"
	"slices"
	"strings"
	"testing"

	"heddle/api"
	"heddle/term"
)

// rising: terms in their order, no two of them the same.
func rising() []api.Term {
	return []api.Term{
		num(api.MinInt), num(-11), num(-10), num(-2), num(-1), num(0), num(1), num(2), num(10), num(api.MaxInt),
		word(""), word("\x00"), word("A"), word("Z"), word("a"), word("a\x00"), word("aa"), word("ab"), word("b"), word("é"), word("\uffff"), word("\U00010000"),
		ref("M@h", 9, 9, 9, 9), ref("m@h", 9, 9, 9, 9), ref("n@h", 0, 9, 9, 9), ref("n@h", 1, 0, 0, 0), ref("n@h", 1, 0, 0, 1), ref("n@h", 1, 0, 1, 0), ref("n@h", 1, 0, math.MaxUint32, 9), ref("n@h", 1, 1, 0, 0), ref("n@h", math.MaxUint32, 0, 0, 0), ref("n@ha", 0, 0, 0, 0),
		pid("m@h", 1, 5, 0), pid("n@h", 0, 9, 9), pid("n@h", 1, 0, 7), pid("n@h", 1, 1, 0), pid("n@h", 1, 1, 1), pid("n@h", 1, 2, 0), pid("n@h", 1, math.MaxUint32, 0), pid("n@h", 2, 0, 0), pid("o@h", 0, 0, 0),
		tuple(), tuple(num(9)), tuple(word("a")), tuple(tuple()), tuple(null()), tuple(num(1), list(num(9), null())), tuple(num(2), num(0)), tuple(word("a"), word("a")), tuple(word("a"), word("b")), tuple(word("b"), word("a")), tuple(num(0), num(0), num(0)),
		null(),
		list(num(1), num(0)), list(num(1), num(2)), list(num(1), word("x")), list(num(1), tuple(num(9))), list(num(1), null()),
		list(num(1), num(0), num(5)), list(num(1), num(0), null()), list(num(1), num(0), num(0), null()), list(num(1), num(2), word("z")), list(num(1), num(2), null()), list(num(1), num(5), null()), list(num(1), tuple(), null()),
		list(num(2), num(0)), list(num(2), null()), list(num(2), num(0), null()), list(word("a"), null()), list(null(), null()),
		list(list(num(1), num(0)), null()), list(list(num(1), null()), num(0)), list(list(num(1), null()), null()), list(list(num(1), num(0), null()), null()),
	}
}

// P2.3, P2.8
func TestOrder(t *testing.T) {
	terms := rising()
	for i, a := range terms {
		for j, b := range terms {
			want := min(max(i-j, -1), 1)
			if got := term.Compare(a, b); got != want {
				t.Errorf("Compare(%v, %v) = %d, want %d", a, b, got, want)
			}
			if got := term.Equal(a, b); got != (i == j) {
				t.Errorf("Equal(%v, %v) = %v", a, b, got)
			}
		}
	}
}

// P2.3: the chapter's examples, as texts.
func TestOrderExamples(t *testing.T) {
	line := []string{"1", "a", "#Ref<n@h.1.0.0.0>", "<n@h.1.0.0>", "{}", "{a}", "{a,a}", "[]", "[1]", "[1,2]"}
	for i := 1; i < len(line); i++ {
		if term.Compare(read(t, line[i-1]), read(t, line[i])) != -1 {
			t.Errorf("%s is not ahead of %s", line[i-1], line[i])
		}
	}
	if term.Compare(read(t, "[1|2]"), read(t, "[1,2]")) != -1 || term.Compare(read(t, "[]"), read(t, "[1]")) != -1 || term.Compare(read(t, "[2]"), read(t, "[1,5]")) != 1 {
		t.Error("lists")
	}
}

// oracle: the order by the chapter's words, a list being taken as its first element and what is left.
func oracle(a, b api.Term) int {
	if a.Kind != b.Kind {
		return slices.Compare([]api.Kind{a.Kind}, []api.Kind{b.Kind})
	}
	switch a.Kind {
	case api.KInt:
		return slices.Compare([]int64{a.Int}, []int64{b.Int})
	case api.KAtom:
		return strings.Compare(a.Text, b.Text)
	case api.KRef, api.KPid:
		if c := strings.Compare(a.Text, b.Text); c != 0 {
			return c
		}
		return slices.Compare(append([]uint32{a.Creation}, a.Nums...), append([]uint32{b.Creation}, b.Nums...))
	case api.KTuple:
		if len(a.Args) != len(b.Args) {
			return slices.Compare([]int{len(a.Args)}, []int{len(b.Args)})
		}
		for i := range a.Args {
			if c := oracle(a.Args[i], b.Args[i]); c != 0 {
				return c
			}
		}
	case api.KList:
		if c := oracle(a.Args[0], b.Args[0]); c != 0 {
			return c
		}
		return oracle(left(a), left(b))
	}
	return 0
}

// left: what is left of a list behind its first element.
func left(t api.Term) api.Term {
	if len(t.Args) == 2 {
		return t.Args[1]
	}
	return list(t.Args[1:]...)
}

// small: all tuples and lists of up to two Args or elements, of a few terms; and of these again some.
func small() []api.Term {
	terms := []api.Term{num(0), num(1), word("a"), tuple(), null()}
	for _, a := range slices.Clone(terms) {
		terms = append(terms, tuple(a))
		for _, b := range []api.Term{num(0), word("a"), null()} {
			terms = append(terms, tuple(a, b), list(a, b), list(a, b, num(1)), list(a, b, null()))
		}
	}
	for _, a := range terms[5:17] {
		terms = append(terms, list(num(0), a, null()), list(a, null()), tuple(a))
	}
	return terms
}

// P2.3, P2.8: just one of two is ahead, or they are the same; what is ahead of one ahead is ahead.
func TestOrderIsALine(t *testing.T) {
	terms := append(small(), rising()...)
	table := make([][]int, len(terms))
	for i, a := range terms {
		table[i] = make([]int, len(terms))
		for j, b := range terms {
			table[i][j] = term.Compare(a, b)
			if table[i][j] != oracle(a, b) {
				t.Fatalf("Compare(%v, %v) = %d", a, b, table[i][j])
			}
			if (table[i][j] == 0) != same(a, b) || term.Equal(a, b) != same(a, b) {
				t.Fatalf("%v, %v: are they the same?", a, b)
			}
		}
	}
	for i := range terms {
		for j := range terms {
			if table[i][j] != -table[j][i] {
				t.Fatalf("%v, %v: not one alone is ahead", terms[i], terms[j])
			}
			for k := range terms {
				if table[i][j] <= 0 && table[j][k] <= 0 && table[i][k] > 0 {
					t.Fatalf("%v, %v, %v: no line", terms[i], terms[j], terms[k])
				}
			}
		}
	}
}

// P2.3: nil and empty lists are the same; terms at the limits have their places.
func TestOrderAtLimits(t *testing.T) {
	if !term.Equal(tuple(), api.Term{Kind: api.KTuple, Nums: []uint32{}, Args: []api.Term{}}) || !term.Equal(null(), api.Term{Kind: api.KNil, Args: []api.Term{}}) {
		t.Error("empty and nil")
	}
	great := tuple(ones(api.MaxSize - 1)...)
	greater := tuple(append(ones(api.MaxSize-2), num(2))...)
	deep, deeper := chain(api.MaxDepth-1, num(1)), chain(api.MaxDepth-1, num(2))
	if term.Compare(great, greater) != -1 || term.Compare(greater, great) != 1 || !term.Equal(great, great) {
		t.Error("MaxSize")
	}
	if term.Compare(deep, deeper) != -1 || term.Compare(deeper, deep) != 1 || !term.Equal(deep, deep) {
		t.Error("MaxDepth")
	}
	// One past a limit is no term, though the first difference stands ahead of it.
	if term.Compare(num(0), tuple(ones(api.MaxSize)...)) != 0 || term.Compare(chain(api.MaxDepth, num(1)), num(0)) != 0 {
		t.Error("one past a limit")
	}
}
