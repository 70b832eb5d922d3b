package term_test

import (
	"slices"
	"testing"

	"heddle/api"
	"heddle/term"
)

// rich: a term with lists of all sorts, made anew at each call, with room behind its lists.
func rich() api.Term {
	t := list(tuple(pid("n@h", 1, 2, 3), list(ref("n@h", 1, 2, 3, 4), num(5))), pid("n@h", 1, 7, 8), list(num(1), null()), tuple(ref("m@h", 1, 2, 3, 4)))
	t.Args = append(make([]api.Term, 0, 9), t.Args...)
	t.Args[1].Nums = append(make([]uint32, 0, 9), t.Args[1].Nums...)
	return t
}

// P2.6
func TestCons(t *testing.T) {
	for _, c := range []struct{ head, tail, want api.Term }{
		{num(1), null(), list(num(1), null())},
		{num(1), num(2), list(num(1), num(2))},
		{num(1), list(num(2), word("x")), list(num(1), num(2), word("x"))},
		{num(1), list(num(2), num(3), null()), list(num(1), num(2), num(3), null())},
		{null(), null(), list(null(), null())},
		{list(num(1), null()), null(), list(list(num(1), null()), null())},
		{list(num(1), null()), list(num(2), null()), list(list(num(1), null()), num(2), null())},
		{list(num(1), num(2)), tuple(list(num(3), null())), list(list(num(1), num(2)), tuple(list(num(3), null())))},
		{tuple(), pid("n@h", 1, 2, 3), list(tuple(), pid("n@h", 1, 2, 3))},
	} {
		got, err := term.Cons(c.head, c.tail)
		if !same(got, c.want) || err != nil {
			t.Errorf("Cons(%v, %v) = %v, %v", c.head, c.tail, got, err)
		}
	}
}

// P2.6: the answer's own error: too many parts, too deep.
func TestConsLimits(t *testing.T) {
	refuses := func(what string, head, tail api.Term, code api.Errno, at int) {
		t.Helper()
		got, err := term.Cons(head, tail)
		refused(t, what, err, code, at)
		if !isZero(got) {
			t.Errorf("%s: %.80v beside the error", what, got)
		}
	}
	fits := func(what string, head, tail api.Term, size, depth int) {
		t.Helper()
		got, err := term.Cons(head, tail)
		if n, d, _ := term.Measure(got); n != size || d != depth || err != nil {
			t.Errorf("%s: %d, %d, %v", what, n, d, err)
		}
	}
	full := list(ones(api.MaxSize - 1)...)
	almost := list(ones(api.MaxSize - 2)...)
	fits("a list of MaxSize - 1 parts", num(1), almost, api.MaxSize, 2)
	refuses("a list of MaxSize parts", num(1), full, api.ErrMany, api.MaxSize)
	refuses("a head of two parts", tuple(num(1)), almost, api.ErrMany, api.MaxSize)
	fits("a great head", tuple(ones(api.MaxSize-3)...), null(), api.MaxSize, 3)
	refuses("too great a head", tuple(ones(api.MaxSize-2)...), null(), api.ErrMany, api.MaxSize)
	deep := chain(api.MaxDepth-1, num(1))
	fits("a deep head", deep.Args[0], null(), api.MaxDepth+1, api.MaxDepth)
	refuses("too deep a head", deep, null(), api.ErrDeep, api.MaxDepth)
	fits("a deep tail", num(1), deep.Args[0], api.MaxDepth+1, api.MaxDepth)
	refuses("too deep a tail", num(1), deep, api.ErrDeep, api.MaxDepth+1)
	fits("a deep list behind", num(1), list(deep.Args[0], null()), api.MaxDepth+2, api.MaxDepth)

	wide, wrong := num(api.MaxInt+1), tuple(api.Term{})
	refuses("head and tail are wrong", wide, wrong, api.ErrRange, 0)
	refuses("tail and head are wrong", wrong, wide, api.ErrTerm, 1)
	refuses("a wrong tail, and too many parts", full, tuple(num(1), wide), api.ErrRange, 2)
}

// P2.6
func TestSplit(t *testing.T) {
	odd := api.Term{Kind: 99, Int: 5, Text: "\xff", Creation: 3, Nums: []uint32{1}, Args: []api.Term{{}, {Kind: -1}}}
	for _, c := range []struct{ t, head, rest api.Term }{
		{list(num(1), null()), num(1), null()},
		{list(num(1), num(2)), num(1), num(2)},
		{list(num(1), num(2), null()), num(1), list(num(2), null())},
		{list(num(1), num(2), word("x")), num(1), list(num(2), word("x"))},
		{list(list(num(1), null()), tuple(num(2))), list(num(1), null()), tuple(num(2))},
		{list(num(1), num(2), num(3), num(4)), num(1), list(num(2), num(3), num(4))},
		// what is no term, but a KList with at least two Args
		{list(odd, odd), odd, odd},
		{list(odd, api.Term{}, odd), odd, list(api.Term{}, odd)},
		{list(num(1), list(num(2), null())), num(1), list(num(2), null())},
		{list(num(1), list()), num(1), list()},
		{list(ones(2 * api.MaxSize)...), num(1), list(ones(2*api.MaxSize - 1)...)},
		{list(chain(1<<15, num(1)), chain(1<<15, num(2))), chain(1<<15, num(1)), chain(1<<15, num(2))},
		// fields that KList does not name play no part
		{api.Term{Kind: api.KList, Int: 1, Text: "x", Creation: 1, Nums: []uint32{1}, Args: []api.Term{num(1), num(2), null()}}, num(1), list(num(2), null())},
	} {
		head, rest, ok := term.Split(c.t)
		if !same(head, c.head) || !same(rest, c.rest) || !ok {
			t.Errorf("Split(%.80v) = %.80v, %.80v, %v", c.t, head, rest, ok)
		}
	}
	for _, x := range []api.Term{{}, num(1), word("a"), pid("n@h", 1, 2, 3), null(), tuple(), tuple(num(1), null()), list(), list(num(1)), list(list(num(1), null())), odd, {Kind: api.KNil, Args: []api.Term{num(1), null()}}, {Args: []api.Term{num(1), null()}}, {Kind: 8, Args: []api.Term{num(1), null()}}} {
		if head, rest, ok := term.Split(x); !isZero(head) || !isZero(rest) || ok {
			t.Errorf("Split(%v) = %v, %v, %v", x, head, rest, ok)
		}
	}
}

// P2.9
func TestSplitOfConsOfSplit(t *testing.T) {
	terms := append(small(), rising()...)
	for _, head := range terms {
		for _, tail := range terms {
			made, err := term.Cons(head, tail)
			if err != nil {
				t.Fatalf("Cons(%v, %v): %v", head, tail, err)
			}
			h, rest, ok := term.Split(made)
			if !ok || !same(h, head) || !same(rest, tail) {
				t.Fatalf("Split(Cons(%v, %v)) = %v, %v, %v", head, tail, h, rest, ok)
			}
		}
		h, rest, ok := term.Split(head)
		if !ok {
			continue
		}
		if again, err := term.Cons(h, rest); !same(again, head) || err != nil {
			t.Errorf("Cons(Split(%v)) = %v, %v", head, again, err)
		}
	}
}

// P2.6
func TestCopy(t *testing.T) {
	odd := api.Term{Kind: 99, Int: -5, Text: "\xff", Creation: 3, Nums: []uint32{1, 2, 3, 4}, Args: []api.Term{{}, {Kind: -1, Args: []api.Term{num(7)}}}}
	terms := append(rising(), api.Term{}, odd, list(), tuple(odd, odd), rich(), chain(1<<16-1, odd), tuple(ones(1<<17)...))
	for _, x := range terms {
		if got := term.Copy(x); !same(got, x) {
			t.Errorf("Copy(%.80v) = %.80v", x, got)
		}
	}
}

// Rule 4: answers share memory with no argument and not with one another; what is handed in is left as it is.
func TestNewMemory(t *testing.T) {
	x := rich()
	scribble(term.Copy(x))
	head, rest, _ := term.Split(x)
	scribble(head)
	if !same(rest, list(rich().Args[1:]...)) {
		t.Errorf("the answers of Split share memory: %v", rest)
	}
	scribble(rest)
	pair := list(rich(), rich())
	_, tail, _ := term.Split(pair)
	scribble(tail)
	if !same(pair, list(rich(), rich())) {
		t.Error("Split shares a tail's memory")
	}
	h := rich()
	made, err := term.Cons(h, x)
	if err != nil {
		t.Fatal(err)
	}
	scribble(made)
	made, _ = term.Cons(h, tuple(x))
	scribble(made)
	if !same(x, rich()) || !same(h, rich()) {
		t.Errorf("an answer shares memory with an argument: %v, %v", x, h)
	}
	a, b := rich(), rich()
	made, _ = term.Cons(a, b)
	scribble(a)
	scribble(b)
	if !same(made.Args[0], rich()) || !same(list(made.Args[1:]...), rich()) {
		t.Errorf("Cons keeps its arguments: %v", made)
	}
	twice := pid("n@h", 1, 2, 3)
	made, _ = term.Cons(twice, list(twice, tuple(twice)))
	scribble(made.Args[0])
	if !same(list(made.Args[1:]...), list(pid("n@h", 1, 2, 3), tuple(pid("n@h", 1, 2, 3)))) {
		t.Errorf("parts of one answer share memory: %v", made)
	}
	shared := tuple(num(1))
	both := term.Copy(tuple(shared, shared))
	scribble(both.Args[0])
	if !same(both.Args[1], shared) {
		t.Error("two lists of one copy share memory")
	}
}

// Rule 4: no call changes what it is given, not even behind its lists' ends.
func TestArgumentsStay(t *testing.T) {
	x := rich()
	room := x.Args[:cap(x.Args)]
	for i := len(x.Args); i < len(room); i++ {
		room[i] = word("room")
	}
	before := slices.Clone(room)
	term.Check(x)
	term.Measure(x)
	term.Compare(x, x)
	term.Equal(x, x)
	term.Print(x)
	term.Cons(x, x)
	term.Cons(num(1), x)
	term.Split(x)
	term.Copy(x)
	if !slices.EqualFunc(room, before, same) || !same(x, rich()) {
		t.Errorf("%v", room)
	}
}
