package heap_test

import (
	"math"
	"slices"
	"strconv"
	"testing"

	"heddle/api"
	"heddle/heap"
)

// P3.3: as many parts as may be, and one more, laid as they are written.
func TestTermSize(t *testing.T) {
	h := create(t, api.MaxHeap)
	one := lay(t, h, num(1))
	for _, c := range []struct {
		what string
		w    api.Word
		fits bool
	}{
		{"a tuple of MaxSize parts", bundle(t, h, slices.Repeat([]api.Word{one}, api.MaxSize-1)...), true},
		{"a tuple of one part more", bundle(t, h, slices.Repeat([]api.Word{one}, api.MaxSize)...), false},
		{"a tuple whose last element is one part too many", bundle(t, h, append(slices.Repeat([]api.Word{one}, api.MaxSize-2), lay(t, h, tuple(num(1))))...), false},
		{"a tuple whose first element is one part too many", bundle(t, h, append([]api.Word{lay(t, h, tuple(num(1)))}, slices.Repeat([]api.Word{one}, api.MaxSize-2)...)...), false},
		{"a list of MaxSize parts", cells(t, h, api.MaxSize-2, one, lay(t, h, null())), true},
		{"a list of one part more", cells(t, h, api.MaxSize-1, one, lay(t, h, null())), false},
		{"a list of MaxSize parts with an int behind it", cells(t, h, api.MaxSize-2, one, one), true},
		{"a list with a tuple of two parts behind it", cells(t, h, api.MaxSize-2, one, lay(t, h, tuple(num(1)))), false},
		{"a list of MaxSize parts with a tuple of two parts behind it", cells(t, h, api.MaxSize-3, one, lay(t, h, tuple(num(1)))), true},
		{"a long list", cells(t, h, 50000, one, lay(t, h, null())), false},
	} {
		x, err := h.Term(c.w)
		if !c.fits {
			refused(t, c.what, err, api.ErrMany)
			if !isZero(x) {
				t.Errorf("%s: a term beside an error", c.what)
			}
		} else if err != nil || parts(x) != api.MaxSize {
			t.Errorf("%s: %d parts, %v", c.what, parts(x), err)
		}
	}
}

func parts(x api.Term) int {
	n := 1
	for _, arg := range x.Args {
		n += parts(arg)
	}
	return n
}

// cells: a list of so many cells with that head, and behind them that tail.
func cells(t *testing.T, h *heap.Heap, n int, head, tail api.Word) api.Word {
	t.Helper()
	for range n {
		tail = cons(t, h, head, tail)
	}
	return tail
}

// nest: tuples one within the other around a word.
func nest(t *testing.T, h *heap.Heap, n int, w api.Word) api.Word {
	t.Helper()
	for range n {
		w = bundle(t, h, w)
	}
	return w
}

// P3.3: as deep as may be, and one deeper.
func TestTermDepth(t *testing.T) {
	h := create(t, api.MaxHeap)
	one, end := lay(t, h, num(1)), lay(t, h, null())
	flat := lay(t, h, tuple(num(1), num(2)))
	deepest := nest(t, h, api.MaxDepth-1, one)
	stands(t, "MaxDepth", h, deepest, chain(api.MaxDepth-1, num(1)))
	for what, w := range map[string]api.Word{
		"one deeper":                  bundle(t, h, deepest),
		"one deeper, in an element":   bundle(t, h, one, deepest, one),
		"one deeper, as a head":       cons(t, h, deepest, end),
		"one deeper, as a later head": cons(t, h, one, cons(t, h, deepest, end)),
		"one deeper, as a tail":       cons(t, h, one, deepest),
		"far deeper":                  nest(t, h, 1000, one),
		"as many as may be":           nest(t, h, api.MaxSize-1, one),
		"an empty tuple too deep":     nest(t, h, api.MaxDepth, bundle(t, h)),
		"a list too deep":             nest(t, h, api.MaxDepth-1, lay(t, h, list(num(1), num(2)))),
		"a flat one behind":           bundle(t, h, nest(t, h, api.MaxDepth-2, flat), flat),
		"a flat one ahead":            bundle(t, h, flat, nest(t, h, api.MaxDepth-2, flat)),
	} {
		x, err := h.Term(w)
		refused(t, what, err, api.ErrDeep)
		if !isZero(x) {
			t.Errorf("%s: a term beside an error", what)
		}
	}
	stands(t, "a list behind the deepest", h, nest(t, h, api.MaxDepth-2, lay(t, h, list(num(1), num(2)))), chain(api.MaxDepth-2, list(num(1), num(2))))
	long := cons(t, h, nest(t, h, api.MaxDepth-2, one), cells(t, h, 1000, one, end))
	stands(t, "a long list", h, long, list(append([]api.Term{chain(api.MaxDepth-2, num(1))}, append(ones(1000), null())...)...))
}

// P3.3: of both ErrMany, wherever the many and the deep ones stand.
func TestTermManyAndDeep(t *testing.T) {
	h := create(t, api.MaxHeap)
	one := lay(t, h, num(1))
	many := bundle(t, h, slices.Repeat([]api.Word{one}, api.MaxSize)...)
	deep := nest(t, h, api.MaxDepth, one)
	for what, w := range map[string]api.Word{
		"many ahead of deep":        bundle(t, h, many, deep),
		"deep ahead of many":        bundle(t, h, deep, many),
		"many within deep":          nest(t, h, api.MaxDepth, many),
		"deep within many":          bundle(t, h, append([]api.Word{deep}, slices.Repeat([]api.Word{one}, api.MaxSize-1)...)...),
		"one too many, all deep":    nest(t, h, api.MaxSize, one),
		"many as a deep one's list": cons(t, h, deep, cells(t, h, api.MaxSize, one, one)),
		"as deep as a heap is":      nest(t, h, 100000, one),
	} {
		_, err := h.Term(w)
		refused(t, what, err, api.ErrMany)
	}
	just := bundle(t, h, append([]api.Word{deep}, slices.Repeat([]api.Word{one}, api.MaxSize-api.MaxDepth-2)...)...)
	_, err := h.Term(just)
	refused(t, "deep, and just as many as may be", err, api.ErrDeep)
}

// P3.3: what is shared is written out as often as it is held. Written out these are far more than could be gone through.
func TestTermShared(t *testing.T) {
	h := create(t, api.MaxHeap)
	twice := func(w api.Word, n int) api.Word {
		for range n {
			w = bundle(t, h, w, w)
		}
		return w
	}
	one := lay(t, h, num(1))
	if x, err := h.Term(twice(one, 11)); err != nil || parts(x) != 4095 {
		t.Errorf("shared: %d parts, %v, want 4095", parts(x), err)
	}
	if x, err := h.Term(bundle(t, h, twice(one, 11))); err != nil || parts(x) != 4096 {
		t.Errorf("shared: %d parts, %v, want 4096", parts(x), err)
	}
	list := lay(t, h, null())
	for range 60 {
		list = cons(t, h, list, list)
	}
	for what, w := range map[string]api.Word{
		"4097 parts":    bundle(t, h, bundle(t, h, twice(one, 11))),
		"8191 parts":    twice(one, 12),
		"2^60 parts":    twice(one, 60),
		"2^5000 parts":  twice(one, 5000),
		"deep and many": nest(t, h, 1000, twice(one, 5000)),
		"lists":         list,
	} {
		_, err := h.Term(w)
		refused(t, what, err, api.ErrMany)
	}
	// Each cell holds the ones ahead of it as its head, and all of them one long list as their tail.
	long := cells(t, h, 100000, one, one)
	heads := one
	for range 5000 {
		heads = cons(t, h, heads, long)
	}
	_, err := h.Term(heads)
	refused(t, "one tail of many lists", err, api.ErrMany)
}

// P3.3, P3.4: a list behind a list's cells is one list; anything else is its tail.
func TestCons(t *testing.T) {
	h := create(t, 200)
	a, end := lay(t, h, word("a")), lay(t, h, null())
	rest := lay(t, h, list(num(1), num(2), null()))
	pair := lay(t, h, list(num(1), num(2)))
	before := h.Used()
	for i, c := range []struct {
		head, tail api.Word
		want       api.Term
	}{
		{a, end, list(word("a"), null())},
		{a, rest, list(word("a"), num(1), num(2), null())},
		{a, pair, list(word("a"), num(1), num(2))},
		{a, a, list(word("a"), word("a"))},
		{rest, rest, list(list(num(1), num(2), null()), num(1), num(2), null())},
		{rest, end, list(list(num(1), num(2), null()), null())},
		{end, end, list(null(), null())},
		{end, rest, list(null(), num(1), num(2), null())},
		{a, cons(t, h, pair, rest), list(word("a"), list(num(1), num(2)), num(1), num(2), null())},
		{a, lay(t, h, tuple(list(num(1), null()))), list(word("a"), tuple(list(num(1), null())))},
	} {
		used := h.Used()
		w := cons(t, h, c.head, c.tail)
		if h.Used() != used+3 {
			t.Errorf("case %d: Cons takes %d words", i, h.Used()-used)
		}
		stands(t, "case "+strconv.Itoa(i), h, w, c.want)
		head, tail, err := h.Split(w)
		if head != c.head || tail != c.tail || err != nil {
			t.Errorf("case %d: Split = %d, %d, %v, want %d, %d", i, head, tail, err, c.head, c.tail)
		}
	}
	if before != 9 {
		t.Errorf("%d words are laid, want 9", before)
	}
	stands(t, "what lists hold", h, rest, list(num(1), num(2), null()))
}

// P3.4, P3.10: cells and tuples where there is just room enough, and where there is one word less.
func TestRoomOfConsAndTuple(t *testing.T) {
	for _, n := range []int{0, 1, 2, 3, 100, api.MaxSize - 1, api.MaxSize} {
		h := with(t, n+1)
		one := lay(t, h, num(1))
		w := bundle(t, h, slices.Repeat([]api.Word{one}, n)...)
		fills(t, "Tuple", h, n+1, n+1)
		if n < api.MaxSize {
			stands(t, "Tuple", h, w, tuple(ones(n)...))
		}
		if n == 0 {
			continue
		}
		h = with(t, n)
		w, err := h.Tuple(slices.Repeat([]api.Word{lay(t, h, num(1))}, n)...)
		refused(t, "Tuple of "+strconv.Itoa(n), err, api.ErrRoom)
		if w != 0 {
			t.Errorf("Tuple answers %d beside its error", w)
		}
		fills(t, "Tuple without room", h, 0, n)
	}
	h := create(t, 6)
	one := lay(t, h, num(1))
	stands(t, "Cons", h, cons(t, h, one, one), list(num(1), num(1)))
	fills(t, "Cons", h, 3, 3)
	for _, size := range []int{2, 3, 4, 5} {
		h = create(t, size)
		w, err := h.Cons(one, one)
		refused(t, "Cons", err, api.ErrRoom)
		if w != 0 {
			t.Errorf("Cons answers %d beside its error", w)
		}
		fills(t, "Cons without room", h, 0, size/2)
	}
}

// P3.4: more than MaxSize, told ahead of the want of room.
func TestTupleOfTooMany(t *testing.T) {
	for _, size := range []int{2, 2 * (api.MaxSize + 1), 2 * (api.MaxSize + 2), api.MaxHeap} {
		h := create(t, size)
		kept := lay(t, h, tuple())
		one := lay(t, h, num(1))
		for _, n := range []int{api.MaxSize + 1, api.MaxSize + 2, 2 * api.MaxSize, api.MaxHeap} {
			w, err := h.Tuple(slices.Repeat([]api.Word{one}, n)...)
			refused(t, "Tuple", err, api.ErrMany)
			if w != 0 {
				t.Errorf("Tuple answers %d beside its error", w)
			}
		}
		fills(t, "Tuple of too many", h, 1, size/2)
		stands(t, "ahead of too many", h, kept, tuple())
	}
}

// P3.4, rule 4: the words handed in are neither changed nor kept.
func TestTupleKeepsNothing(t *testing.T) {
	h := create(t, 20)
	one, two := lay(t, h, num(1)), lay(t, h, num(2))
	l := []api.Word{one, two}
	w := bundle(t, h, l...)
	if !slices.Equal(l, []api.Word{one, two}) {
		t.Errorf("Tuple has changed its argument: %v", l)
	}
	l[0], l[1] = two, one
	stands(t, "behind a change", h, w, tuple(num(1), num(2)))
}

// P3.5: heads and tails of what is laid, made and collected.
func TestSplit(t *testing.T) {
	h := create(t, 100)
	w := lay(t, h, list(num(1), tuple(word("a")), list(num(2), null()), word("t")))
	used := h.Used()
	for i, c := range []struct{ head, rest api.Term }{
		{num(1), list(tuple(word("a")), list(num(2), null()), word("t"))},
		{tuple(word("a")), list(list(num(2), null()), word("t"))},
		{list(num(2), null()), word("t")},
	} {
		head, tail, err := h.Split(w)
		if err != nil {
			t.Fatalf("Split %d: %v", i, err)
		}
		stands(t, "head", h, head, c.head)
		stands(t, "tail", h, tail, c.rest)
		w = tail
	}
	if h.Used() != used {
		t.Errorf("Split takes %d words", h.Used()-used)
	}
	for _, x := range []api.Term{num(1), num(0), word("a"), ref("n@h", 1, 2, 3, 4), pid("n@h", 1, 2, 3), tuple(), tuple(num(1), num(2)), tuple(list(num(1), null())), null()} {
		head, tail, err := h.Split(lay(t, h, x))
		refused(t, "Split of what is no list", err, api.ErrWord)
		if head != 0 || tail != 0 {
			t.Errorf("Split answers %d, %d beside its error", head, tail)
		}
	}
}

// P3.5: elements, and what is none.
func TestElem(t *testing.T) {
	h := create(t, 200)
	all := []api.Term{num(1), tuple(), word("a"), list(num(1), null()), pid("n@h", 1, 2, 3)}
	w := lay(t, h, tuple(all...))
	used := h.Used()
	for i, want := range all {
		e, err := h.Elem(w, i)
		if err != nil {
			t.Fatalf("Elem %d: %v", i, err)
		}
		stands(t, "Elem", h, e, want)
	}
	for _, i := range []int{-1, 5, 6, 4096, math.MaxInt, math.MinInt} {
		e, err := h.Elem(w, i)
		refused(t, "Elem "+strconv.Itoa(i), err, api.ErrRange)
		if e != 0 {
			t.Errorf("Elem answers %d beside its error", e)
		}
	}
	if h.Used() != used {
		t.Errorf("Elem takes %d words", h.Used()-used)
	}
	for _, i := range []int{-1, 0, 1} {
		_, err := h.Elem(lay(t, h, tuple()), i)
		refused(t, "Elem of the empty tuple", err, api.ErrRange)
	}
	one := lay(t, h, tuple(num(7)))
	if e, err := h.Elem(one, 0); err != nil || e != lay(t, h, num(7)) {
		t.Errorf("Elem = %d, %v", e, err)
	}
	for _, x := range []api.Term{num(1), word("a"), ref("n@h", 1, 2, 3, 4), pid("n@h", 1, 2, 3), null(), list(num(1), null())} {
		for _, i := range []int{-1, 0, 1, 2, 100} {
			e, err := h.Elem(lay(t, h, x), i)
			refused(t, "Elem of what is no tuple", err, api.ErrWord)
			if e != 0 {
				t.Errorf("Elem answers %d beside its error", e)
			}
		}
	}
}

// P3.4, P3.5: tuples of words, element by element the same words.
func TestTuple(t *testing.T) {
	h := create(t, 20000)
	l := []api.Word{lay(t, h, num(1)), lay(t, h, null()), lay(t, h, word("a")), lay(t, h, tuple()), lay(t, h, list(num(1), null()))}
	l = append(l, l[4])
	w := bundle(t, h, l...)
	stands(t, "Tuple", h, w, tuple(num(1), null(), word("a"), tuple(), list(num(1), null()), list(num(1), null())))
	for i, want := range l {
		if e, err := h.Elem(w, i); e != want || err != nil {
			t.Errorf("Elem(%d) = %d, %v, want %d", i, e, err, want)
		}
	}
	big := bundle(t, h, slices.Repeat([]api.Word{w}, api.MaxSize)...)
	if e, err := h.Elem(big, api.MaxSize-1); e != w || err != nil {
		t.Errorf("the last of MaxSize elements is %d, %v, want %d", e, err, w)
	}
	_, err := h.Elem(big, api.MaxSize)
	refused(t, "Elem beyond MaxSize", err, api.ErrRange)
	_, err = h.Term(big)
	refused(t, "Term of a tuple of MaxSize", err, api.ErrMany)
}
