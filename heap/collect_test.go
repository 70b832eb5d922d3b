package heap_test

import (
	"math"
	"math/rand"
	"runtime"
	"slices"
	"strconv"
	"strings"
	"testing"

	"heddle/api"
	"heddle/heap"
	"heddle/term"
)

func collect(t *testing.T, h *heap.Heap, roots ...api.Word) []api.Word {
	t.Helper()
	l, err := h.Collect(roots...)
	if err != nil || len(l) != len(roots) {
		t.Fatalf("Collect of %d roots: %d words, %v", len(roots), len(l), err)
	}
	return l
}

// The chapter's examples.
func TestExamples(t *testing.T) {
	h := create(t, 20)
	fills(t, "New(20)", h, 0, 10)
	lay(t, h, list(num(1), num(2), null()))
	fills(t, "Lay([1,2])", h, 6, 10)
	lay(t, h, tuple(word("a")))
	fills(t, "Lay({a})", h, 8, 10)
	_, err := h.Lay(tuple(word("a"), word("b")))
	refused(t, "Lay({a,b})", err, api.ErrRoom)
	collect(t, h)
	fills(t, "Collect()", h, 0, 10)

	w := lay(t, h, list(num(1), null()))
	p := bundle(t, h, w, w)
	fills(t, "Tuple(w, w)", h, 6, 10)
	stands(t, "Tuple(w, w)", h, p, tuple(list(num(1), null()), list(num(1), null())))
	p = collect(t, h, p)[0]
	fills(t, "Collect of it", h, 6, 10)
	stands(t, "Collect of it", h, p, tuple(list(num(1), null()), list(num(1), null())))
	_, _, err = h.Split(p)
	refused(t, "Split of a tuple", err, api.ErrWord)
}

// P3.6, P3.9: each form, with rubbish ahead, behind and between, again and again, in heaps that it fills and in others.
func TestCollectEachForm(t *testing.T) {
	for _, c := range samples() {
		for _, spare := range []int{1, 2, 101} {
			h := with(t, c.takes+spare)
			lay(t, h, tuple())
			w := lay(t, h, c.t)
			for range 4 {
				for h.Free() > 0 {
					lay(t, h, tuple())
				}
				w = collect(t, h, w)[0]
				fills(t, "Collect", h, c.takes, c.takes+spare)
				stands(t, "Collect", h, w, c.t)
			}
		}
	}
}

// P3.6: a heap that is full of what is reached, in both halves.
func TestCollectAFullHeap(t *testing.T) {
	for _, size := range []int{2, 3, 4, 5, 6, 7, 20, 21, 1001, api.MaxHeap} {
		h := create(t, size)
		var roots []api.Word
		for h.Free() > 0 {
			roots = append(roots, lay(t, h, tuple()))
		}
		for range 3 {
			roots = collect(t, h, roots...)
			fills(t, "full", h, size/2, size/2)
			_, err := h.Lay(tuple())
			refused(t, "Lay in a full heap", err, api.ErrRoom)
		}
		distinct := slices.Compact(slices.Sorted(slices.Values(roots)))
		if len(distinct) != size/2 {
			t.Errorf("size %d: %d tuples are %d", size, size/2, len(distinct))
		}
		roots = collect(t, h, roots[0])
		fills(t, "one of them", h, 1, size/2)
		stands(t, "one of them", h, roots[0], tuple())
	}
}

// P3.6: roots that take nothing, are the same, reach one another; in order.
func TestCollectRoots(t *testing.T) {
	h := create(t, 200)
	inner := lay(t, h, list(num(1), word("a"), null()))
	_, tail, _ := h.Split(inner)
	outer := bundle(t, h, inner, lay(t, h, ref("n@h", 1, 2, 3, 4)), inner)
	lay(t, h, tuple(ones(20)...))
	b := lay(t, h, word("b"))
	want := []api.Term{word("a"), null(), num(7), list(word("a"), null()), list(num(1), word("a"), null()),
		tuple(list(num(1), word("a"), null()), ref("n@h", 1, 2, 3, 4), list(num(1), word("a"), null())), list(num(1), word("a"), null()), word("b"), num(7)}
	roots := []api.Word{lay(t, h, word("a")), lay(t, h, null()), lay(t, h, num(7)), tail, inner, outer, inner, b, lay(t, h, num(7))}
	for range 3 {
		given := slices.Clone(roots)
		now := collect(t, h, roots...)
		if !slices.Equal(roots, given) {
			t.Errorf("Collect has changed its argument: %v, it was %v", roots, given)
		}
		fills(t, "Collect", h, 6+6+4, 100)
		for i, x := range want {
			stands(t, "root "+strconv.Itoa(i), h, now[i], x)
		}
		if now[4] != now[6] || now[2] != now[8] {
			t.Errorf("the same root twice: %v", now)
		}
		if e, _ := h.Elem(now[5], 0); e != now[4] {
			t.Errorf("the root %d is %d in another one", now[4], e)
		}
		if e, _ := h.Elem(now[5], 2); e != now[4] {
			t.Errorf("the root %d is %d in another one", now[4], e)
		}
		if _, e, _ := h.Split(now[4]); e != now[3] {
			t.Errorf("the tail %d is %d in its list", now[3], e)
		}
		kept := slices.Clone(now)
		roots = slices.Clone(now)
		clear(now)
		stands(t, "behind a change of the answer", h, kept[5], want[5])
	}
	fills(t, "no roots", h, 16, 100)
	if l := collect(t, h); len(l) != 0 {
		t.Errorf("Collect() = %v", l)
	}
	fills(t, "no roots", h, 0, 100)
}

// P3.9: two of the same form stay two, one that is held twice stays one.
func TestCollectKeepsSharing(t *testing.T) {
	for _, x := range []api.Term{tuple(), tuple(num(1)), list(num(1), null()), pid("n@h", 1, 2, 3), ref("n@h", 1, 2, 3, 4)} {
		h := create(t, 200)
		one := lay(t, h, x)
		each := h.Used()
		other := lay(t, h, x)
		w := bundle(t, h, one, other, one, other)
		for range 3 {
			w = collect(t, h, w)[0]
			fills(t, "two of a form", h, 5+2*each, 100)
			var e [4]api.Word
			for i := range e {
				e[i], _ = h.Elem(w, i)
			}
			if e[0] != e[2] || e[1] != e[3] || e[0] == e[1] {
				t.Errorf("held are %v, two of them twice", e)
			}
		}
	}
}

// P3.6: what is shared may be far greater, written out, than a heap: each is kept once.
func TestCollectShared(t *testing.T) {
	h := create(t, 100000)
	w := lay(t, h, word("a"))
	for range 10000 {
		w = bundle(t, h, w, w)
		lay(t, h, tuple())
	}
	fills(t, "shared", h, 40000, 50000)
	w = collect(t, h, w)[0]
	fills(t, "shared, collected", h, 30000, 50000)
	for range 10000 {
		a, err := h.Elem(w, 0)
		b, fault := h.Elem(w, 1)
		if a != b || err != nil || fault != nil {
			t.Fatalf("elements %d, %d, %v, %v", a, b, err, fault)
		}
		w = a
	}
	stands(t, "innermost", h, w, word("a"))
}

// Nothing is kept of atoms that nothing reaches: a heap that lays new ones again and again does not grow.
func TestCollectForgetsAtoms(t *testing.T) {
	h := create(t, 20)
	filling := strings.Repeat("x", 200)
	n := 0
	layMany := func() {
		for range 50000 {
			lay(t, h, word(strconv.Itoa(n)+filling))
			n++
		}
	}
	kept := lay(t, h, tuple(word("kept"), pid("n@h", 1, 2, 3)))
	for range 3 {
		layMany()
		kept = collect(t, h, kept)[0]
	}
	runtime.GC()
	var memory runtime.MemStats
	runtime.ReadMemStats(&memory)
	if memory.HeapAlloc > 15<<20 {
		t.Errorf("%d bytes are alive behind a collection", memory.HeapAlloc)
	}
	stands(t, "an atom that is reached", h, kept, tuple(word("kept"), pid("n@h", 1, 2, 3)))
}

// A thing is what a word stands for, as the test knows it: the same thing is the same pointer, if it takes words.
type thing struct {
	leaf  api.Term // of all that have no parts
	kind  api.Kind
	parts []*thing
}

func (x *thing) takes() int {
	switch x.kind {
	case api.KRef:
		return 6
	case api.KPid:
		return 4
	case api.KTuple:
		return 1 + len(x.parts)
	case api.KList:
		return 3
	}
	return 0
}

// measure: size and depth, written out; more than a million parts are a million.
func (x *thing) measure() (int, int) {
	size, depth := 1, 0
	add := func(y *thing) {
		s, d := y.measure()
		size, depth = min(size+s, 1e6), max(depth, d)
	}
	for x.kind == api.KList && x.parts[1].kind == api.KList {
		add(x.parts[0])
		x = x.parts[1]
	}
	for _, y := range x.parts {
		add(y)
	}
	return size, depth + 1
}

func (x *thing) term() api.Term {
	if x.kind != api.KTuple && x.kind != api.KList {
		return x.leaf
	}
	t := api.Term{Kind: x.kind}
	for x.kind == api.KList && x.parts[1].kind == api.KList {
		t.Args = append(t.Args, x.parts[0].term())
		x = x.parts[1]
	}
	for _, y := range x.parts {
		t.Args = append(t.Args, y.term())
	}
	return t
}

// thingOf: a laid term, nothing of it shared.
func thingOf(t api.Term) *thing {
	x := &thing{kind: t.Kind}
	switch t.Kind {
	case api.KTuple:
		for _, arg := range t.Args {
			x.parts = append(x.parts, thingOf(arg))
		}
	case api.KList:
		x = thingOf(t.Args[len(t.Args)-1])
		for i := len(t.Args) - 2; i >= 0; i-- {
			x = &thing{kind: api.KList, parts: []*thing{thingOf(t.Args[i]), x}}
		}
	default:
		x.leaf = t
	}
	return x
}

// model: what the test knows of a heap.
type model struct {
	t      *testing.T
	r      *rand.Rand
	h      *heap.Heap
	half   int
	used   int
	proper map[api.Word]*thing
	order  []api.Word // the keys of proper, as they came
}

func (m *model) tell(what string, w api.Word, x *thing) {
	m.t.Helper()
	if old, ok := m.proper[w]; ok && x.takes() > 0 && old != x {
		m.t.Fatalf("%s: the word %d stands for two things", what, w)
	} else if ok && x.takes() == 0 && !same(old.leaf, x.leaf) {
		m.t.Fatalf("%s: the word %d stands for %v and %v", what, w, old.leaf, x.leaf)
	} else if !ok {
		m.order = append(m.order, w)
	}
	m.proper[w] = x
}

func (m *model) pick() (api.Word, *thing) {
	for len(m.order) == 0 {
		m.lay()
	}
	w := m.order[m.r.Intn(len(m.order))]
	if m.r.Intn(2) == 0 { // what came last, so that great ones come to be
		w = m.order[len(m.order)-1]
	}
	return w, m.proper[w]
}

func (m *model) randomTerm(depth int) api.Term {
	switch n := m.r.Intn(12); {
	case n < 3:
		return num(m.r.Int63n(5) - 2)
	case n < 5:
		return word("a" + strconv.Itoa(m.r.Intn(20)))
	case n == 5:
		return null()
	case n == 6:
		return ref("n@h", m.r.Uint32(), m.r.Uint32(), m.r.Uint32(), m.r.Uint32())
	case n == 7:
		return pid("n"+strconv.Itoa(m.r.Intn(3))+"@h", m.r.Uint32(), m.r.Uint32(), m.r.Uint32())
	case depth > 3:
		return tuple()
	case n < 10:
		var l []api.Term
		for range m.r.Intn(4) {
			l = append(l, m.randomTerm(depth+1))
		}
		return tuple(l...)
	}
	tail := m.randomTerm(depth + 1)
	l := []api.Term{tail}
	if tail.Kind == api.KList {
		l = tail.Args
	}
	for range 1 + m.r.Intn(3) {
		l = append([]api.Term{m.randomTerm(depth + 1)}, l...)
	}
	return list(l...)
}

// made: what a call that lays so many words must have answered.
func (m *model) made(what string, w api.Word, err error, takes int, x *thing) {
	m.t.Helper()
	if takes > m.half-m.used {
		refused(m.t, what, err, api.ErrRoom)
		return
	}
	if err != nil {
		m.t.Fatalf("%s: %v, %d of %d words are laid, %d more", what, err, m.used, m.half, takes)
	}
	m.used += takes
	m.tell(what, w, x)
}

func sum(x *thing, seen map[*thing]bool) int {
	if seen[x] {
		return 0
	}
	seen[x] = true
	n := x.takes()
	for _, y := range x.parts {
		n += sum(y, seen)
	}
	return n
}

func (m *model) lay() {
	x := m.randomTerm(0)
	made := thingOf(x)
	w, err := m.h.Lay(x)
	m.made("Lay", w, err, sum(made, map[*thing]bool{}), made)
}

func (m *model) step() {
	w, x := m.pick()
	v, y := m.pick()
	switch m.r.Intn(10) {
	case 0, 1:
		m.lay()
	case 2, 3:
		made, err := m.h.Cons(w, v)
		m.made("Cons", made, err, 3, &thing{kind: api.KList, parts: []*thing{x, y}})
	case 4, 5:
		l, parts := []api.Word{}, []*thing{}
		for range m.r.Intn(4) {
			u, z := m.pick()
			l, parts = append(l, u), append(parts, z)
		}
		made, err := m.h.Tuple(l...)
		m.made("Tuple", made, err, 1+len(l), &thing{kind: api.KTuple, parts: parts})
	case 6:
		m.split(w, x)
	case 7:
		m.element(w, x)
	case 8:
		if m.r.Intn(5) == 0 {
			m.collect()
		}
	case 9:
		m.throw(w)
	}
	if u, z := m.pick(); m.r.Intn(4) == 0 {
		m.read(u, z)
	}
	fills(m.t, "model", m.h, m.used, m.half)
}

func (m *model) read(w api.Word, x *thing) {
	size, depth := x.measure()
	got, err := m.h.Term(w)
	switch {
	case size > api.MaxSize:
		refused(m.t, "Term", err, api.ErrMany)
	case depth > api.MaxDepth:
		refused(m.t, "Term", err, api.ErrDeep)
	case err != nil || !same(got, x.term()):
		m.t.Fatalf("Term(%d) = %v, %v, want %v", w, got, err, x.term())
	}
}

func (m *model) split(w api.Word, x *thing) {
	head, tail, err := m.h.Split(w)
	if x.kind != api.KList {
		refused(m.t, "Split", err, api.ErrWord)
		return
	}
	if err != nil {
		m.t.Fatalf("Split: %v", err)
	}
	m.tell("Split", head, x.parts[0])
	m.tell("Split", tail, x.parts[1])
}

func (m *model) element(w api.Word, x *thing) {
	i := m.r.Intn(6) - 1
	e, err := m.h.Elem(w, i)
	switch {
	case x.kind != api.KTuple:
		refused(m.t, "Elem", err, api.ErrWord)
	case i < 0 || i >= len(x.parts):
		refused(m.t, "Elem", err, api.ErrRange)
	case err != nil:
		m.t.Fatalf("Elem: %v", err)
	default:
		m.tell("Elem", e, x.parts[i])
	}
}

func (m *model) collect() {
	var roots []api.Word
	var kept []*thing
	seen := map[*thing]bool{}
	m.used = 0
	for range m.r.Intn(4) {
		w, x := m.pick2()
		roots, kept = append(roots, w), append(kept, x)
		m.used += sum(x, seen)
	}
	now, err := m.h.Collect(roots...)
	if err != nil || len(now) != len(roots) {
		m.t.Fatalf("Collect: %v, %v", now, err)
	}
	m.proper, m.order = map[api.Word]*thing{}, nil
	for i, w := range now {
		m.reach(w, kept[i])
	}
}

// pick2: one of those that there are; none is laid for it.
func (m *model) pick2() (api.Word, *thing) {
	w := m.order[m.r.Intn(len(m.order))]
	return w, m.proper[w]
}

// reach: go to all that a root reaches; each is to have one word, and each word to be of one.
func (m *model) reach(w api.Word, x *thing) {
	if m.proper[w] == x {
		return
	}
	m.tell("Collect", w, x)
	switch x.kind {
	case api.KList:
		head, tail, err := m.h.Split(w)
		if err != nil {
			m.t.Fatalf("Split behind Collect: %v", err)
		}
		m.reach(head, x.parts[0])
		m.reach(tail, x.parts[1])
	case api.KTuple:
		for i, y := range x.parts {
			e, err := m.h.Elem(w, i)
			if err != nil {
				m.t.Fatalf("Elem behind Collect: %v", err)
			}
			m.reach(e, y)
		}
	}
	m.read(w, x)
}

// throw: words that no call told. What is answered is free; nothing proper changes; all ends.
func (m *model) throw(w api.Word) {
	v := api.Word(m.r.Uint64() >> m.r.Intn(64))
	if _, ok := m.proper[v]; ok {
		return
	}
	if l := m.h.Used(); l != m.used {
		m.t.Fatalf("Used %d, want %d", l, m.used)
	}
	m.h.Term(v)
	m.h.Split(v)
	m.h.Elem(v, m.r.Intn(5))
	for _, call := range []func() (api.Word, error){
		func() (api.Word, error) { return m.h.Cons(v, w) },
		func() (api.Word, error) { return m.h.Cons(w, v) },
		func() (api.Word, error) { return m.h.Tuple(w, v, v) },
	} {
		before := m.h.Used()
		made, err := call()
		if err != nil && m.h.Used() != before {
			m.t.Fatalf("a refused call has laid %d words", m.h.Used()-before)
		}
		m.h.Term(made)
	}
	m.used = m.h.Used()
	for u, x := range m.proper {
		m.read(u, x)
	}
}

// All promises, against what the test knows.
func TestModel(t *testing.T) {
	for seed := range int64(150) {
		r := rand.New(rand.NewSource(seed))
		size := 2 + r.Intn(400)
		m := &model{t: t, r: r, half: size / 2, h: create(t, size), proper: map[api.Word]*thing{}}
		for range 400 {
			m.step()
		}
		if t.Failed() {
			t.Fatalf("seed %d", seed)
		}
	}
}

// odd: words of all sorts that no call told, or that stand for nothing.
func odd() []api.Word {
	l := []api.Word{math.MaxUint64, math.MaxUint64 - 1, math.MaxUint64 - 2, math.MaxUint64 - 3}
	for i := range 200 {
		l = append(l, api.Word(i))
	}
	for i := range 62 {
		for tag := range api.Word(4) {
			l = append(l, 4<<i|tag, 4<<i-4|tag, -(4<<i)|tag, api.Word(api.MaxInt+1)<<2|tag)
		}
	}
	return l
}

// Rule 1: any word may be asked, in heaps with nothing in them and with something; what was proper stays as it was.
func TestOddWords(t *testing.T) {
	for _, size := range []int{2, 3, 40, 41, 100000} {
		h := create(t, size)
		all := map[api.Word]api.Term{}
		for _, x := range []api.Term{num(5), word("a"), null(), tuple(), list(num(1), tuple(num(2), word("b"))), ref("n@h", 1, 2, 3, 4), pid("n@h", 1, 2, 3)} {
			if w, err := h.Lay(x); err == nil {
				all[w] = x
			}
		}
		for _, w := range odd() {
			if x, err := h.Term(w); err == nil && term.Check(x) != nil {
				t.Errorf("Term(%d) = %v, which is no term", w, x)
			} else if err != nil {
				refused(t, "Term of an odd word", err, api.ErrWord)
				if !isZero(x) {
					t.Errorf("Term(%d) answers %v beside its error", w, x)
				}
			}
			h.Split(w)
			for _, i := range []int{-1, 0, 1, 4096, math.MaxInt} {
				h.Elem(w, i)
			}
			for _, v := range []api.Word{1, w} {
				made, _ := h.Cons(w, v)
				h.Term(made)
				made, _ = h.Cons(v, w)
				h.Term(made)
				made, _ = h.Tuple(v, w)
				h.Term(made)
				if size == 100000 {
					h.Lay(list(ones(10)...)) // what a word of nothing pointed to may come to be there
				}
				h.Term(made)
			}
		}
		for w, x := range all {
			stands(t, "behind odd words", h, w, x)
		}
	}
}

// A word that stands for nothing is held by nothing.
func TestOddParts(t *testing.T) {
	h := create(t, 20)
	for _, w := range odd() {
		if _, err := h.Term(w); err == nil {
			continue
		}
		for _, call := range []func() (api.Word, error){
			func() (api.Word, error) { return h.Cons(w, 1) },
			func() (api.Word, error) { return h.Cons(1, w) },
			func() (api.Word, error) { return h.Tuple(1, w) },
		} {
			made, err := call()
			refused(t, "an odd part", err, api.ErrWord)
			if made != 0 {
				t.Errorf("a word beside an error: %d", made)
			}
		}
	}
	fills(t, "odd parts", h, 0, 10)
}

// Rule 1: odd roots, and words of ahead of a collection. If a collection is refused, all is as it was.
func TestOddRoots(t *testing.T) {
	for _, w := range odd() {
		h := create(t, 60)
		x := tuple(list(num(1), word("b"), null()), pid("n@h", 1, 2, 3), word("a"))
		root := lay(t, h, x)
		used := h.Used()
		l, err := h.Collect(w, root, w)
		if err != nil {
			refused(t, "Collect with an odd root", err, api.ErrWord)
			if len(l) != 0 {
				t.Errorf("Collect answers %v beside its error", l)
			}
			fills(t, "a refused collection", h, used, 30)
			stands(t, "a refused collection", h, root, x)
			continue
		}
		if len(l) != 3 {
			t.Fatalf("Collect of three: %v", l)
		}
		stands(t, "beside an odd root", h, l[1], x)
		l = collect(t, h, l[1])
		fills(t, "behind an odd root", h, used, 30)
		stands(t, "behind an odd root", h, l[0], x)
	}
}

// Words of ahead of a collection are free to stand for anything, but no call panics, and nothing proper changes.
func TestStaleWords(t *testing.T) {
	for seed := range int64(200) {
		r := rand.New(rand.NewSource(seed))
		size := 10 + r.Intn(100)
		h := create(t, size)
		var stale []api.Word
		fill := func() {
			for range 10 {
				m := model{t: t, r: r}
				if w, err := h.Lay(m.randomTerm(0)); err == nil {
					stale = append(stale, w)
				}
			}
		}
		fill()
		x := list(tuple(word("k"), num(3)), ref("m@h", 9, 8, 7, 6))
		collect(t, h)
		kept, err := h.Lay(x)
		if err != nil {
			continue
		}
		fill()
		for range 30 {
			v, w := stale[r.Intn(len(stale))], stale[r.Intn(len(stale))]
			h.Term(v)
			h.Split(v)
			h.Elem(v, r.Intn(3))
			made, _ := h.Cons(v, w)
			h.Term(made)
			made, _ = h.Tuple(w, kept, v)
			h.Term(made)
			stands(t, "among stale words", h, kept, x)
			if l, err := h.Collect(v, kept, w); err == nil {
				kept = l[1]
			}
			stands(t, "collected among stale words", h, kept, x)
		}
	}
}
