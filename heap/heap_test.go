package heap_test

import (
	"errors"
	"math"
	"slices"
	"strconv"
	"strings"
	"testing"

	"heddle/api"
	"heddle/heap"
	"heddle/sample"
	"heddle/term"
)

// Short names for the terms that tests make by hand.
var (
	num, word, ref, pid, tuple = sample.Int, sample.Atom, sample.Ref, sample.Pid, sample.Tuple
	null, list, ones, chain    = sample.Nil, sample.List, sample.Ones, sample.Chain
	same, isZero               = sample.Same, sample.IsZero
)

// refused: err is a fault of layer heap with that number at 0, and nothing lies under it.
func refused(t *testing.T, what string, err error, code api.Errno) {
	t.Helper()
	var f *api.Fault
	if !errors.As(err, &f) || *f != (api.Fault{Layer: "heap", Code: code}) || !errors.Is(err, code) {
		t.Errorf("%s: %v, want errno %d of layer heap at 0, nothing under it", what, err, code)
	}
}

// create: a heap of that size.
func create(t *testing.T, size int) *heap.Heap {
	t.Helper()
	h, err := heap.New(size)
	if h == nil || err != nil {
		t.Fatalf("New(%d) = %v, %v", size, h, err)
	}
	return h
}

// with: a heap in which so many words are free, however many are laid; odd ones have a word that no half has.
func with(t *testing.T, free int) *heap.Heap {
	t.Helper()
	return create(t, 2*free+free%2)
}

func lay(t *testing.T, h *heap.Heap, x api.Term) api.Word {
	t.Helper()
	w, err := h.Lay(x)
	if err != nil {
		t.Fatalf("Lay(%.80v): %v", x, err)
	}
	return w
}

func cons(t *testing.T, h *heap.Heap, head, tail api.Word) api.Word {
	t.Helper()
	w, err := h.Cons(head, tail)
	if err != nil {
		t.Fatalf("Cons(%d, %d): %v", head, tail, err)
	}
	return w
}

func bundle(t *testing.T, h *heap.Heap, l ...api.Word) api.Word {
	t.Helper()
	w, err := h.Tuple(l...)
	if err != nil {
		t.Fatalf("Tuple of %d: %v", len(l), err)
	}
	return w
}

// stands: the word stands for that term.
func stands(t *testing.T, what string, h *heap.Heap, w api.Word, want api.Term) {
	t.Helper()
	if got, err := h.Term(w); err != nil || !same(got, want) {
		t.Errorf("%s: Term(%d) = %.200v, %v, want %.200v", what, w, got, err, want)
	}
}

// fills: so many words are laid, of so many.
func fills(t *testing.T, what string, h *heap.Heap, used, of int) {
	t.Helper()
	if h.Used() != used || h.Free() != of-used {
		t.Errorf("%s: Used %d, Free %d, want %d, %d", what, h.Used(), h.Free(), used, of-used)
	}
}

// samples: a term of each form, with what it takes.
func samples() []struct {
	t     api.Term
	takes int
} {
	return []struct {
		t     api.Term
		takes int
	}{
		{num(0), 0}, {num(1), 0}, {num(-1), 0}, {num(api.MinInt), 0}, {num(api.MaxInt), 0}, {num(1 << 32), 0},
		{word(""), 0}, {word("a"), 0}, {word("é'\x00"), 0}, {word(strings.Repeat("x", api.MaxAtom)), 0},
		{null(), 0}, {api.Term{Kind: api.KNil, Args: []api.Term{}, Nums: []uint32{}}, 0},
		{ref("n@h", 0, 0, 0, 0), 6}, {ref("n-1@h.x", 1, 2, 3, 4), 6}, {ref("n@h", math.MaxUint32, math.MaxUint32, math.MaxUint32, math.MaxUint32), 6},
		{pid("n@h", 0, 0, 0), 4}, {pid("m@h", 1, 2, 3), 4}, {pid(strings.Repeat("n", api.MaxName-2)+"@h", math.MaxUint32, math.MaxUint32, math.MaxUint32), 4},
		{tuple(), 1}, {api.Term{Kind: api.KTuple, Args: []api.Term{}}, 1}, {tuple(num(1)), 2}, {tuple(word("a"), word("b")), 3}, {tuple(tuple()), 3}, {tuple(tuple(), tuple()), 5},
		{list(num(1), null()), 3}, {list(num(1), num(2), null()), 6}, {list(num(1), num(2)), 3}, {list(num(1), word("a")), 3},
		{list(num(1), tuple(num(2), num(3))), 6}, {list(list(num(1), null()), null()), 6}, {list(list(num(1), num(2), null()), list(num(3), null()), null()), 15},
		{list(null(), null()), 3}, {list(num(1), pid("n@h", 1, 2, 3)), 7}, {list(ref("n@h", 1, 2, 3, 4), null()), 9}, {list(num(1), tuple()), 4},
		{tuple(word("ok"), list(num(1), num(2), null())), 9},
		{tuple(pid("n@h", 1, 5, 0), ref("n@h", 1, 2, 3, 4), pid("n@h", 1, 5, 0)), 18},
		{tuple(ones(api.MaxSize - 1)...), api.MaxSize}, {list(ones(api.MaxSize - 1)...), 3 * (api.MaxSize - 2)},
		{tuple(slices.Repeat([]api.Term{ref("n@h", 1, 2, 3, 4)}, api.MaxSize-1)...), api.MaxSize + 6*(api.MaxSize-1)},
		{chain(api.MaxDepth-1, num(1)), 2 * (api.MaxDepth - 1)}, {chain(api.MaxDepth-1, tuple()), 2*(api.MaxDepth-1) + 1},
		{chain(api.MaxDepth-2, list(num(1), num(2))), 2*(api.MaxDepth-2) + 3},
	}
}

// P3.1
func TestNew(t *testing.T) {
	for _, c := range []struct{ size, free int }{
		{2, 1}, {3, 1}, {4, 2}, {5, 2}, {20, 10}, {21, 10}, {api.MaxHeap - 1, api.MaxHeap/2 - 1}, {api.MaxHeap, api.MaxHeap / 2},
	} {
		fills(t, "New("+strconv.Itoa(c.size)+")", create(t, c.size), 0, c.free)
	}
	for _, size := range []int{1, 0, -1, -2, -20, math.MinInt, api.MaxHeap + 1, api.MaxHeap + 2, math.MaxInt} {
		h, err := heap.New(size)
		refused(t, "New("+strconv.Itoa(size)+")", err, api.ErrArg)
		if h != nil {
			t.Errorf("New(%d) answers a heap beside its error", size)
		}
	}
}

// P3.2, P3.3, P3.7, P3.8, P3.10: laid where there is just room enough; refused where there is one word less.
func TestLay(t *testing.T) {
	for _, c := range samples() {
		if c.takes > 0 {
			h := with(t, c.takes)
			w := lay(t, h, c.t)
			fills(t, "Lay", h, c.takes, c.takes)
			stands(t, "Lay", h, w, c.t)
		}
		h := with(t, c.takes+1)
		lay(t, h, tuple())
		w := lay(t, h, c.t)
		fills(t, "Lay behind another", h, c.takes+1, c.takes+1)
		stands(t, "Lay behind another", h, w, c.t)
	}
}

// P3.2, P3.10
func TestLayWithoutRoom(t *testing.T) {
	for _, c := range samples() {
		if c.takes == 0 {
			continue
		}
		h := with(t, c.takes)
		first := lay(t, h, tuple())
		w, err := h.Lay(c.t)
		refused(t, "Lay without room", err, api.ErrRoom)
		if w != 0 {
			t.Errorf("Lay answers %d beside its error", w)
		}
		fills(t, "Lay without room", h, 1, c.takes)
		stands(t, "ahead of a refused one", h, first, tuple())
		if c.takes > 1 {
			h = with(t, c.takes-1)
			_, err = h.Lay(c.t)
			refused(t, "Lay in a heap that is too small", err, api.ErrRoom)
			fills(t, "Lay in a heap that is too small", h, 0, c.takes-1)
		}
	}
}

// P3.10: what takes no words is never refused for want of room.
func TestLayInAFullHeap(t *testing.T) {
	h := create(t, 2)
	full := lay(t, h, tuple())
	laid := map[api.Word]api.Term{full: tuple()}
	for _, c := range samples() {
		if c.takes == 0 {
			laid[lay(t, h, c.t)] = c.t
		}
	}
	for i := range 1000 {
		x := word("a" + strconv.Itoa(i))
		laid[lay(t, h, x)] = x
	}
	for w, x := range laid {
		stands(t, "in a full heap", h, w, x)
	}
	fills(t, "in a full heap", h, 1, 1)
}

// P3.2, P3.10: no number of atoms is too great, for atoms take no words.
func TestAtomsWithoutBound(t *testing.T) {
	h := create(t, 2)
	const many = 1<<20 + 2
	first, last := api.Word(0), api.Word(0)
	for i := range many {
		last = lay(t, h, word(strconv.Itoa(i)))
		if i == 0 {
			first = last
		}
	}
	stands(t, "the first of many atoms", h, first, word("0"))
	stands(t, "the last of many atoms", h, last, word(strconv.Itoa(many-1)))
	fills(t, "many atoms", h, 0, 1)
	l, err := h.Collect(last)
	if err != nil || len(l) != 1 {
		t.Fatalf("Collect of an atom: %v, %v", l, err)
	}
	stands(t, "collected", h, l[0], word(strconv.Itoa(many-1)))
}

// The form of words that package api tells.
func TestForm(t *testing.T) {
	h := create(t, 100)
	for _, n := range []int64{0, 1, -1, 77, api.MinInt, api.MaxInt} {
		if w := lay(t, h, num(n)); w != api.Word(4*n+1) {
			t.Errorf("%d has the word %d", n, w)
		}
	}
	if w := lay(t, h, null()); w != 3 {
		t.Errorf("the empty list has the word %d", w)
	}
	for i, s := range []string{"a", "b", "c"} {
		if w := lay(t, h, word(s)); w != api.Word(4*i+2) {
			t.Errorf("the atom %s has the word %d", s, w)
		}
	}
	for _, x := range []api.Term{tuple(), list(num(1), null()), pid("n@h", 1, 2, 3), ref("n@h", 1, 2, 3, 4), tuple(num(1))} {
		at := h.Used()
		if w := lay(t, h, x); w != api.Word(4*at) {
			t.Errorf("%v stands at %d and has the word %d", x, at, w)
		}
	}
}

// wrong: what is no term, of every number that Check has, and at several places.
func wrong() []api.Term {
	endless := make([]api.Term, 1)
	endless[0] = api.Term{Kind: api.KTuple, Args: endless}
	return []api.Term{
		{}, {Kind: 8}, {Kind: -1}, {Kind: api.KList}, {Kind: api.KNil, Int: 1}, {Kind: api.KInt, Text: "a"},
		{Kind: api.KNil, Args: []api.Term{num(1)}}, {Kind: api.KInt, Args: []api.Term{num(1)}},
		list(num(1)), list(num(1), list(num(2), null())), tuple(num(1), num(2), list(null())),
		num(api.MaxInt + 1), num(api.MinInt - 1), num(math.MaxInt64), num(math.MinInt64), tuple(num(1), num(api.MaxInt+1)),
		word("\xff"), word("ab\xc0\x80"), word(strings.Repeat("x", api.MaxAtom+1)), tuple(word("a"), word("é\xff")),
		pid("n", 1, 2, 3), pid("n@h", 1, 2), pid("n@h", 1, 2, 3, 4), ref("n@h@i", 1, 2, 3, 4), ref("n@h", 1, 2, 3), tuple(pid("", 1, 2, 3)),
		tuple(ones(api.MaxSize)...), list(ones(api.MaxSize)...), tuple(tuple(ones(api.MaxSize - 1)...)),
		endless[0], chain(api.MaxDepth, num(1)), chain(api.MaxDepth-1, list(num(1), null())), chain(api.MaxDepth, tuple(ones(api.MaxSize)...)),
	}
}

// P3.2: Check's fault lies under a refusal at 0 that has its number; it is told ahead of ErrRoom; nothing is laid.
func TestLayOfNoTerm(t *testing.T) {
	for i, x := range wrong() { // told by its number: one of them has no end
		var under *api.Fault
		if !errors.As(term.Check(x), &under) {
			t.Fatalf("case %d is a term", i)
		}
		for _, size := range []int{2, 100000} {
			h := create(t, size)
			kept := lay(t, h, tuple())
			w, err := h.Lay(x)
			var f, g *api.Fault
			if w != 0 || !errors.As(err, &f) || f.Layer != "heap" || f.At != 0 || f.Code != under.Code || !errors.Is(err, f.Code) {
				t.Errorf("case %d: Lay = %d, %v, want under it %v", i, w, err, under)
				continue
			}
			if !errors.As(f.Under, &g) || g.Layer != "term" || g.At != under.At || g.Code != under.Code || f.Under.Error() != under.Error() {
				t.Errorf("case %d: under it lies %v, want %v", i, f.Under, under)
			}
			fills(t, "Lay of no term", h, 1, size/2)
			stands(t, "ahead of what is no term", h, kept, tuple())
		}
	}
}

// P3.2: a refused term leaves no atom behind, either: words that are told behind it are right.
func TestRefusedLayLeavesNoAtoms(t *testing.T) {
	h := create(t, 4)
	a := lay(t, h, word("a"))
	for _, x := range []api.Term{tuple(word("b"), word("c")), tuple(word("b"), word("\xff"))} {
		if _, err := h.Lay(x); err == nil {
			t.Fatalf("Lay(%v) is not refused", x)
		}
	}
	b := lay(t, h, word("b"))
	stands(t, "ahead of refused ones", h, a, word("a"))
	stands(t, "behind refused ones", h, b, word("b"))
}

// Rule 4: what is laid is not what was handed in, and no two answers share memory.
func TestLayKeepsNothing(t *testing.T) {
	h := create(t, 100)
	make := func() api.Term {
		return tuple(ref("n@h", 1, 2, 3, 4), list(pid("n@h", 1, 2, 3), num(1), null()), tuple(word("a")))
	}
	x := make()
	w := lay(t, h, x)
	if !same(x, make()) {
		t.Errorf("Lay has changed its argument: %v", x)
	}
	x.Args[0].Nums[1], x.Args[1].Args[0].Nums[0], x.Args[2].Args[0] = 9, 9, num(9)
	stands(t, "behind a change of the argument", h, w, make())
	got, _ := h.Term(w)
	got.Args[0].Nums[1], got.Args[1].Args[0].Nums[0], got.Args[2].Args[0] = 9, 9, num(9)
	got.Args[1] = num(9)
	stands(t, "behind a change of the answer", h, w, make())
}

// P3.3: the parts of one answer do not share memory, though their words are the same.
func TestTermSharesNothing(t *testing.T) {
	h := create(t, 100)
	r := lay(t, h, tuple(ref("n@h", 1, 2, 3, 4), num(5)))
	got, err := h.Term(bundle(t, h, r, r))
	if err != nil {
		t.Fatal(err)
	}
	got.Args[0].Args[0].Nums[0] = 9
	got.Args[0].Args[1] = num(9)
	if !same(got.Args[1], tuple(ref("n@h", 1, 2, 3, 4), num(5))) {
		t.Errorf("two parts share memory: %v", got)
	}
}

// P3.7: Used and Free of a heap from which all is gone, and rule 5: two heaps know nothing of one another.
func TestTwoHeaps(t *testing.T) {
	h, g := create(t, 20), create(t, 30)
	w, v := lay(t, h, tuple(word("a"))), lay(t, g, tuple(word("b"), word("a")))
	stands(t, "one", h, w, tuple(word("a")))
	stands(t, "the other", g, v, tuple(word("b"), word("a")))
	if _, err := h.Collect(); err != nil {
		t.Fatal(err)
	}
	fills(t, "one", h, 0, 10)
	fills(t, "the other", g, 3, 15)
	stands(t, "the other", g, v, tuple(word("b"), word("a")))
}

// Rule 3: all calls of a heap that nobody made, ahead of every other error.
func TestNobodyMadeIt(t *testing.T) {
	made := create(t, 20)
	w := lay(t, made, tuple(num(1)))
	cell := lay(t, made, list(num(1), null()))
	copied := *made
	for what, h := range map[string]*heap.Heap{"nil": nil, "zero": {}, "copied": &copied} {
		for range 2 {
			for _, x := range append(wrong(), num(1), tuple(num(1)), list(ones(100)...)) {
				got, err := h.Lay(x)
				refused(t, what+": Lay", err, api.ErrZero)
				if got != 0 {
					t.Errorf("%s: Lay = %d", what, got)
				}
			}
			for _, x := range []api.Word{0, 1, 2, 3, 4, w, cell, math.MaxUint64} {
				noAnswer(t, what, h, x)
			}
			if h.Used() != 0 || h.Free() != 0 {
				t.Errorf("%s: Used %d, Free %d", what, h.Used(), h.Free())
			}
		}
	}
	fills(t, "the one that was made", made, 5, 10)
	stands(t, "the one that was made", made, w, tuple(num(1)))
}

// noAnswer: all calls with that word answer ErrZero, and nothing beside it.
func noAnswer(t *testing.T, what string, h *heap.Heap, w api.Word) {
	t.Helper()
	x, err := h.Term(w)
	refused(t, what+": Term", err, api.ErrZero)
	pair, err := h.Cons(w, w)
	refused(t, what+": Cons", err, api.ErrZero)
	many, err := h.Tuple(slices.Repeat([]api.Word{w}, api.MaxSize+1)...)
	refused(t, what+": Tuple", err, api.ErrZero)
	none, err := h.Tuple()
	refused(t, what+": Tuple", err, api.ErrZero)
	head, tail, err := h.Split(w)
	refused(t, what+": Split", err, api.ErrZero)
	element, err := h.Elem(w, -1)
	refused(t, what+": Elem", err, api.ErrZero)
	l, err := h.Collect(w)
	refused(t, what+": Collect", err, api.ErrZero)
	nothing, err := h.Collect()
	refused(t, what+": Collect", err, api.ErrZero)
	if !isZero(x) || pair != 0 || many != 0 || none != 0 || head != 0 || tail != 0 || element != 0 || len(l) != 0 || len(nothing) != 0 {
		t.Errorf("%s: an answer beside an error", what)
	}
}
