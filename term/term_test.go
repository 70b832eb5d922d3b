package term_test

import (
	"errors"
	"fmt"
	"math"
	"slices"
	"strings"
	"testing"

	"heddle/api"
	"heddle/atom"
	"heddle/sample"
	"heddle/term"
)

// Short names for the terms that tests make by hand.
var (
	num, word, ref, pid, tuple = sample.Int, sample.Atom, sample.Ref, sample.Pid, sample.Tuple
	null, list, ones, chain    = sample.Nil, sample.List, sample.Ones, sample.Chain
	same, isZero, scribble     = sample.Same, sample.IsZero, sample.Scribble
)

// refused: err is a fault of layer term with that number at that place, and nothing lies under it.
func refused(t *testing.T, what string, err error, code api.Errno, at int) {
	t.Helper()
	refusedUnder(t, what, err, code, at, nil)
}

// refusedUnder: likewise, and that fault lies under it.
func refusedUnder(t *testing.T, what string, err error, code api.Errno, at int, under error) {
	t.Helper()
	var f *api.Fault
	if !errors.As(err, &f) {
		t.Errorf("%s: %v, want errno %d at %d", what, err, code, at)
		return
	}
	if f.Layer != "term" || f.Code != code || f.At != at || !sameFault(f.Under, under) {
		t.Errorf("%s: %v, want errno %d at %d, under it %v", what, err, code, at, under)
	}
	if !errors.Is(err, code) {
		t.Errorf("%s: errors.Is does not find errno %d in %v", what, code, err)
	}
}

// sameFault: are both none, or faults with the same fields (and nothing under them)?
func sameFault(a, b error) bool {
	var f, g *api.Fault
	if a == nil || b == nil {
		return a == nil && b == nil
	}
	return errors.As(a, &f) && errors.As(b, &g) && *f == *g
}

// samples: a term of each form, each with its size and its depth.
func samples() []struct {
	t           api.Term
	size, depth int
} {
	return []struct {
		t           api.Term
		size, depth int
	}{
		{num(0), 1, 1}, {num(-1), 1, 1}, {num(api.MinInt), 1, 1}, {num(api.MaxInt), 1, 1},
		{word(""), 1, 1}, {word("a"), 1, 1}, {word("end"), 1, 1}, {word("é'\x00"), 1, 1}, {word(strings.Repeat("x", api.MaxAtom)), 1, 1},
		{ref("n@h", 0, 0, 0, 0), 1, 1}, {ref("n-1@h.x", math.MaxUint32, 1, 2, math.MaxUint32), 1, 1},
		{pid("n@h", 0, 0, 0), 1, 1}, {pid(strings.Repeat("n", api.MaxName-2)+"@h", math.MaxUint32, math.MaxUint32, math.MaxUint32), 1, 1},
		{tuple(), 1, 1}, {api.Term{Kind: api.KTuple, Nums: []uint32{}, Args: []api.Term{}}, 1, 1}, {tuple(tuple()), 2, 2}, {tuple(num(1), tuple(num(2)), word("a")), 5, 3},
		{null(), 1, 1}, {api.Term{Kind: api.KNil, Args: []api.Term{}}, 1, 1},
		{list(num(1), null()), 3, 2}, {list(num(1), num(2), null()), 4, 2}, {list(num(1), num(2)), 3, 2}, {list(num(1), tuple(tuple())), 4, 3}, {list(list(num(1), null()), null()), 5, 3},
		{list(null(), null()), 3, 2}, {list(list(num(1), num(2)), word("x")), 5, 3},
		{tuple(word("ok"), list(num(1), num(2), null())), 6, 3},
		{tuple(chain(4, num(1)), num(1), chain(2, num(1))), 10, 6}, {tuple(chain(2, num(1)), num(1), chain(4, num(1))), 10, 6},
		{tuple(ones(api.MaxSize - 1)...), api.MaxSize, 2}, {list(ones(api.MaxSize - 1)...), api.MaxSize, 2},
		{chain(api.MaxDepth-1, num(1)), api.MaxDepth, api.MaxDepth}, {chain(api.MaxDepth-1, tuple()), api.MaxDepth, api.MaxDepth},
	}
}

// P2.1, P2.2
func TestTerms(t *testing.T) {
	for _, c := range samples() {
		if err := term.Check(c.t); err != nil {
			t.Errorf("Check(%.80v) = %v", c.t, err)
		}
		if size, depth, err := term.Measure(c.t); size != c.size || depth != c.depth || err != nil {
			t.Errorf("Measure(%.80v) = %d, %d, %v, want %d, %d", c.t, size, depth, err, c.size, c.depth)
		}
	}
}

// noTerm: all that ask Check refuse so, and answer nothing beside it.
func noTerm(t *testing.T, what string, x api.Term, code api.Errno, at int, under error) {
	t.Helper()
	refusedUnder(t, "Check of "+what, term.Check(x), code, at, under)
	size, depth, err := term.Measure(x)
	refusedUnder(t, "Measure of "+what, err, code, at, under)
	if size != 0 || depth != 0 {
		t.Errorf("Measure of %s answers %d, %d beside its error", what, size, depth)
	}
	text, err := term.Print(x)
	refusedUnder(t, "Print of "+what, err, code, at, under)
	if text != "" {
		t.Errorf("Print of %s answers %q beside its error", what, text)
	}
	for _, good := range []api.Term{num(1), list(num(1), null())} {
		made, err := term.Cons(x, good)
		refusedUnder(t, "Cons with the head "+what, err, code, at, under)
		other, err := term.Cons(good, x)
		refusedUnder(t, "Cons with the tail "+what, err, code, at, under)
		if !isZero(made) || !isZero(other) {
			t.Errorf("Cons of %s answers %v, %v beside its errors", what, made, other)
		}
		if term.Compare(x, good) != 0 || term.Compare(good, x) != 0 || term.Equal(x, good) || term.Equal(good, x) {
			t.Errorf("%s has a place in the order", what)
		}
	}
	if term.Compare(x, x) != 0 || term.Equal(x, x) {
		t.Errorf("%s is the same as itself", what)
	}
}

// within: the term as a part of others; how many parts are ahead of it.
func within(x api.Term) []struct {
	t     api.Term
	ahead int
} {
	return []struct {
		t     api.Term
		ahead int
	}{
		{x, 0}, {tuple(x), 1}, {tuple(num(1), x, x), 2}, {list(x, null()), 1},
		{list(num(1), num(2), tuple(x)), 4}, {tuple(tuple(num(1), num(2)), list(num(1), null()), x), 7},
	}
}

// P2.1: a Kind that is none.
func TestNoKind(t *testing.T) {
	for _, k := range []api.Kind{0, -1, 8, 9, 256 + 1, math.MinInt, math.MaxInt} {
		for _, w := range within(api.Term{Kind: k}) {
			noTerm(t, fmt.Sprintf("Kind %d behind %d", k, w.ahead), w.t, api.ErrTerm, w.ahead, nil)
		}
	}
	noTerm(t, "a zero term", api.Term{}, api.ErrTerm, 0, nil)
}

// P2.1: a field that the Kind does not name.
func TestFieldsBeside(t *testing.T) {
	fields := []struct {
		name  string
		set   func(*api.Term)
		named []api.Kind
	}{
		{"Int 1", func(x *api.Term) { x.Int = 1 }, []api.Kind{api.KInt}},
		{"Int -1", func(x *api.Term) { x.Int = -1 }, []api.Kind{api.KInt}},
		{"Text", func(x *api.Term) { x.Text = "n@h" }, []api.Kind{api.KAtom, api.KRef, api.KPid}},
		{"Text 0", func(x *api.Term) { x.Text = "\x00" }, []api.Kind{api.KAtom, api.KRef, api.KPid}},
		{"Creation", func(x *api.Term) { x.Creation = 1 }, []api.Kind{api.KRef, api.KPid}},
		{"Nums", func(x *api.Term) { x.Nums = []uint32{0} }, []api.Kind{api.KRef, api.KPid}},
		{"two Nums", func(x *api.Term) { x.Nums = []uint32{1, 2} }, []api.Kind{api.KPid, api.KRef}},
		{"three Nums", func(x *api.Term) { x.Nums = []uint32{1, 2, 3} }, []api.Kind{api.KPid, api.KRef}},
		{"Args", func(x *api.Term) { x.Args = []api.Term{num(1)} }, []api.Kind{api.KTuple, api.KList}},
		{"two Args", func(x *api.Term) { x.Args = []api.Term{num(1), null()} }, []api.Kind{api.KTuple, api.KList}},
		{"Args that are none", func(x *api.Term) { x.Args = []api.Term{{}} }, []api.Kind{api.KTuple, api.KList}},
	}
	for _, good := range []api.Term{num(0), word("a"), ref("n@h", 1, 1, 2, 3), pid("n@h", 1, 1, 2), tuple(), tuple(num(1)), null(), list(num(1), null())} {
		for _, f := range fields {
			if slices.Contains(f.named, good.Kind) {
				continue
			}
			bad := good
			f.set(&bad)
			for _, w := range within(bad) {
				noTerm(t, fmt.Sprintf("%v with %s behind %d", good, f.name, w.ahead), w.t, api.ErrTerm, w.ahead, nil)
			}
		}
	}
}

// P2.1: how many Nums and Args.
func TestHowMany(t *testing.T) {
	for n := range 6 {
		nums := make([]uint32, n)
		for _, c := range []struct {
			t    api.Term
			good int
		}{{ref("n@h", 1, nums...), 3}, {pid("n@h", 1, nums...), 2}} {
			if n == c.good {
				if err := term.Check(c.t); err != nil {
					t.Errorf("%v: %v", c.t, err)
				}
				continue
			}
			for _, w := range within(c.t) {
				noTerm(t, fmt.Sprintf("%v behind %d", c.t, w.ahead), w.t, api.ErrTerm, w.ahead, nil)
			}
		}
	}
	pair := list(num(1), null())
	for _, bad := range []api.Term{list(), list(num(1)), list(null()), list(pair), list(num(1), pair), list(num(1), num(2), pair), list(pair, pair), list(num(1), list()), list(api.Term{}, list())} {
		for _, w := range within(bad) {
			noTerm(t, fmt.Sprintf("%v behind %d", bad, w.ahead), w.t, api.ErrTerm, w.ahead, nil)
		}
	}
}

// P2.1: ErrRange.
func TestIntBounds(t *testing.T) {
	for _, n := range []int64{api.MinInt, api.MinInt + 1, api.MaxInt - 1, api.MaxInt, 1 << 58, -1 << 58} {
		if err := term.Check(num(n)); err != nil {
			t.Errorf("%d: %v", n, err)
		}
	}
	for _, n := range []int64{api.MinInt - 1, api.MaxInt + 1, 1 << 60, -1 << 60, math.MinInt64, math.MaxInt64} {
		for _, w := range within(num(n)) {
			noTerm(t, fmt.Sprintf("%d behind %d", n, w.ahead), w.t, api.ErrRange, w.ahead, nil)
		}
	}
}

// P2.1: what package atom refuses lies under, with its own place.
func TestTextsOfParts(t *testing.T) {
	for _, s := range []string{"\xff", "abc\xff", "\xed\xa0\x80", "é\xc3", strings.Repeat("x", api.MaxAtom+1), strings.Repeat("\xff", api.MaxAtom+1)} {
		_, under := atom.Quote(s)
		var f *api.Fault
		if !errors.As(under, &f) {
			t.Fatalf("Quote(%q) refuses nothing", s)
		}
		for _, w := range within(word(s)) {
			noTerm(t, fmt.Sprintf("atom %.20q behind %d", s, w.ahead), w.t, f.Code, w.ahead, under)
		}
	}
	noTerm(t, "atom abc\\xff", word("abc\xff"), api.ErrUTF, 0, &api.Fault{Layer: "atom", At: 3, Code: api.ErrUTF})
	noTerm(t, "a long atom", word(strings.Repeat("x", api.MaxAtom+1)), api.ErrLong, 0, &api.Fault{Layer: "atom", Code: api.ErrLong})
	under := &api.Fault{Layer: "atom", Code: api.ErrName}
	for _, s := range []string{"", "a", "a@", "@h", "a@b@c", "a.b@h", "n@h ", "\xff@h", "'n@h'", "n@" + strings.Repeat("h", api.MaxName-1)} {
		for _, x := range []api.Term{ref(s, 1, 1, 2, 3), pid(s, 1, 1, 2)} {
			for _, w := range within(x) {
				noTerm(t, fmt.Sprintf("%v behind %d", x, w.ahead), w.t, api.ErrName, w.ahead, under)
			}
		}
	}
}

// P2.1: sizes up to MaxSize, depths up to MaxDepth.
func TestLimits(t *testing.T) {
	noTerm(t, "a tuple, one too great", tuple(ones(api.MaxSize)...), api.ErrMany, api.MaxSize, nil)
	noTerm(t, "a list, one too great", list(ones(api.MaxSize)...), api.ErrMany, api.MaxSize, nil)
	noTerm(t, "a tuple, far too great", tuple(ones(10*api.MaxSize)...), api.ErrMany, api.MaxSize, nil)
	deep := func(n int) api.Term { return chain(n-1, num(1)) }
	noTerm(t, "one too deep", deep(api.MaxDepth+1), api.ErrDeep, api.MaxDepth, nil)
	noTerm(t, "far too deep", deep(1<<16), api.ErrDeep, api.MaxDepth, nil)
	lists := num(1)
	for range api.MaxDepth {
		lists = list(num(0), lists, null())
	}
	noTerm(t, "lists one too deep", lists, api.ErrDeep, 2*api.MaxDepth-1, nil) // the 0 of the innermost list
	noTerm(t, "deep behind others", tuple(num(1), deep(api.MaxDepth), num(1)), api.ErrDeep, api.MaxDepth+1, nil)

	full := ones(api.MaxSize - api.MaxDepth)
	last := append(slices.Clone(full), deep(api.MaxDepth-1)) // 1 + 3840 + 255 parts
	if size, depth, err := term.Measure(tuple(last...)); size != api.MaxSize || depth != api.MaxDepth || err != nil {
		t.Errorf("both limits: %d, %d, %v", size, depth, err)
	}
	noTerm(t, "both at the same part", tuple(append(full, deep(api.MaxDepth))...), api.ErrMany, api.MaxSize, nil)
}

// P2.1: of several faults the first part's, and at one part the first that is named.
func TestFirstFault(t *testing.T) {
	wide := num(api.MaxInt + 1)
	wrong := word("\xff")
	utf := &api.Fault{Layer: "atom", Code: api.ErrUTF}
	noTerm(t, "range ahead of form", tuple(wide, api.Term{}), api.ErrRange, 1, nil)
	noTerm(t, "form ahead of range", tuple(num(1), api.Term{}, wide), api.ErrTerm, 2, nil)
	noTerm(t, "an atom ahead of form", tuple(tuple(wrong), api.Term{}), api.ErrUTF, 2, utf)
	noTerm(t, "the whole ahead of its parts", api.Term{Kind: api.KTuple, Int: 1, Args: []api.Term{wrong}}, api.ErrTerm, 0, nil)
	noTerm(t, "a list in a list's tail ahead of its elements", list(wrong, list(wide)), api.ErrTerm, 0, nil)
	noTerm(t, "elements ahead of the tail", list(wrong, api.Term{}), api.ErrUTF, 1, utf)
	noTerm(t, "an int with two faults", api.Term{Kind: api.KInt, Int: math.MaxInt64, Text: "x"}, api.ErrTerm, 0, nil)
	noTerm(t, "an atom with two faults", api.Term{Kind: api.KAtom, Text: "\xff", Creation: 1}, api.ErrTerm, 0, nil)
	noTerm(t, "a name and Nums", pid("x", 1, 1), api.ErrTerm, 0, nil)
	noTerm(t, "a name and Args", api.Term{Kind: api.KRef, Text: "x", Nums: []uint32{1, 2, 3}, Args: []api.Term{num(1)}}, api.ErrTerm, 0, nil)

	noTerm(t, "a wrong part ahead of one too many", tuple(append(ones(api.MaxSize-2), append([]api.Term{wide}, ones(9)...)...)...), api.ErrRange, api.MaxSize-1, nil)
	noTerm(t, "a wrong part that is one too many", tuple(append(ones(api.MaxSize-1), api.Term{})...), api.ErrMany, api.MaxSize, nil)
	noTerm(t, "a wrong part that is too deep", chain(api.MaxDepth, api.Term{}), api.ErrDeep, api.MaxDepth, nil)
	noTerm(t, "a wrong part as deep as may be", chain(api.MaxDepth-1, api.Term{}), api.ErrTerm, api.MaxDepth-1, nil)
	noTerm(t, "a wrong part ahead of one too deep", tuple(wide, chain(api.MaxDepth, num(1))), api.ErrRange, 1, nil)
	noTerm(t, "a wrong part behind one too deep", tuple(chain(api.MaxDepth, num(1)), wide), api.ErrDeep, api.MaxDepth, nil)
	noTerm(t, "example 4", tuple(api.Term{Kind: api.KNil, Args: []api.Term{num(1)}}), api.ErrTerm, 1, nil)
}

// Rule 1: parts made by hand that hold themselves, or one another many times, are refused at the limits.
func TestPartsWithoutEnd(t *testing.T) {
	args := make([]api.Term, 1)
	args[0] = api.Term{Kind: api.KTuple, Args: args} // not by tuple, which makes a copy of them
	noTerm(t, "a tuple in itself", args[0], api.ErrDeep, api.MaxDepth, nil)
	pair := num(1)
	for range 60 {
		pair = tuple(pair, pair)
	}
	noTerm(t, "2^60 parts", pair, api.ErrMany, api.MaxSize, nil)
}
