package parse_test

import (
	"math"
	"math/rand"
	"slices"
	"testing"

	"heddle/api"
	"heddle/parse"
)

// kids is a node with Kids alone.
func kids(all ...int) api.Node { return api.Node{Kind: api.ETuple, Kids: all} }

// P11.4: the nodes that are given and those below them.
func TestBelow(t *testing.T) {
	l := []api.Node{kids(), kids(0), kids(0, 1), kids(), kids(2, 2, 3), kids(5, 6, 7, -1, 4), kids(5, math.MaxInt, math.MinInt, 0)}
	for _, c := range []struct{ roots, want []int }{
		{nil, nil}, {[]int{0}, []int{0}}, {[]int{1}, []int{0, 1}}, {[]int{2}, []int{0, 1, 2}}, {[]int{3}, []int{3}}, {[]int{4}, []int{0, 1, 2, 3, 4}},
		{[]int{5}, []int{0, 1, 2, 3, 4, 5}}, {[]int{6}, []int{0, 1, 2, 3, 4, 5, 6}}, {[]int{3, 1}, []int{0, 1, 3}}, {[]int{1, 3}, []int{0, 1, 3}}, {[]int{3, 3, 3}, []int{3}}, {[]int{1, 0, 1}, []int{0, 1}},
		{[]int{-1}, nil}, {[]int{7}, nil}, {[]int{math.MaxInt, math.MinInt, -1, 7}, nil}, {[]int{7, 3, -1, 1}, []int{0, 1, 3}},
	} {
		if got := parse.Below(l, c.roots...); !slices.Equal(got, c.want) {
			t.Errorf("Below %v: %v, not %v", c.roots, got, c.want)
		}
	}
	if got := parse.Below(nil, 0, 1, -1); len(got) != 0 {
		t.Errorf("of no nodes: %v", got)
	}
	if got := parse.Below(nil); len(got) != 0 {
		t.Errorf("of nothing: %v", got)
	}
}

// someNodes are nodes by chance; some Kids are not lower, if that is asked for.
func someNodes(r *rand.Rand, n int, wild bool) []api.Node {
	l := make([]api.Node, n)
	for i := range l {
		l[i].Kind = api.NodeKind(r.Intn(3))
		l[i].Text = []string{"", "a"}[r.Intn(8)/7]
		l[i].Mod = []string{"", "a"}[r.Intn(12)/11]
		l[i].Int = int64(r.Intn(12) / 11)
		l[i].At = r.Intn(100)
		for k := r.Intn(4); k > 0 && i > 0; k-- {
			l[i].Kids = append(l[i].Kids, r.Intn(i))
		}
		if wild && r.Intn(6) == 0 {
			l[i].Kids = append(l[i].Kids, []int{i, i + 1, n, n + 1, -1, math.MaxInt, math.MinInt}[r.Intn(7)])
		}
	}
	return l
}

// modelBelow goes down every way.
func modelBelow(l []api.Node, i int, met []bool) {
	if i < 0 || i >= len(l) || met[i] {
		return
	}
	met[i] = true
	for _, kid := range l[i].Kids {
		if kid < i {
			modelBelow(l, kid, met)
		}
	}
}

// modelSame goes down every way, as the chapter says it.
func modelSame(a []api.Node, i int, b []api.Node, k int) bool {
	if i < 0 || i >= len(a) || k < 0 || k >= len(b) {
		return false
	}
	x, y := a[i], b[k]
	if x.Kind != y.Kind || x.Text != y.Text || x.Mod != y.Mod || x.Int != y.Int || len(x.Kids) != len(y.Kids) {
		return false
	}
	for n := range x.Kids {
		if x.Kids[n] >= i || y.Kids[n] >= k || !modelSame(a, x.Kids[n], b, y.Kids[n]) {
			return false
		}
	}
	return true
}

// P11.4, P11.5: by chance, held against what goes down every way.
func TestBelowAndSameModel(t *testing.T) {
	r := rand.New(rand.NewSource(21))
	alike := 0
	for range 4000 {
		a := someNodes(r, r.Intn(9), r.Intn(2) == 0)
		b := someNodes(r, r.Intn(9), r.Intn(2) == 0)
		if r.Intn(2) == 0 {
			b = append(b, a...)
		}
		before := copied(a)
		roots := []int{r.Intn(10) - 1, r.Intn(10) - 1, r.Intn(10) - 1}[:r.Intn(4)]
		met := make([]bool, len(a))
		for _, root := range roots {
			modelBelow(a, root, met)
		}
		var want []int
		for i, is := range met {
			if is {
				want = append(want, i)
			}
		}
		if got := parse.Below(a, roots...); !slices.Equal(got, want) {
			t.Fatalf("Below %v of %s: %v, not %v", roots, show(a), got, want)
		}
		for i := -1; i <= len(a); i++ {
			for k := -1; k <= len(b); k++ {
				same := modelSame(a, i, b, k)
				if parse.Same(a, i, b, k) != same || parse.Same(b, k, a, i) != same {
					t.Fatalf("Same of %d in %s and %d in %s is not %v", i, show(a), k, show(b), same)
				}
				if same && len(a[i].Kids) > 0 {
					alike++
				}
			}
			if parse.Same(a, i, a, i) != modelSame(a, i, a, i) {
				t.Fatalf("Same of %d in %s and itself", i, show(a))
			}
		}
		if !slices.EqualFunc(a, before, sameNode) {
			t.Fatal("nodes are changed")
		}
	}
	if alike < 500 {
		t.Errorf("only %d are the same", alike)
	}
}

func copied(l []api.Node) []api.Node {
	l = slices.Clone(l)
	for i := range l {
		l[i].Kids = slices.Clone(l[i].Kids)
	}
	return l
}

// P11.5: each field, Kids one by one, places aside.
func TestSame(t *testing.T) {
	leaf := api.Node{Kind: api.EAtom, Text: "a", Mod: "m", Int: 3, At: 5}
	change := func(f func(n *api.Node)) api.Node {
		n := leaf
		f(&n)
		return n
	}
	l := []api.Node{
		leaf,
		change(func(n *api.Node) { n.At = -7 }),
		change(func(n *api.Node) { n.Kids = []int{} }),
		change(func(n *api.Node) { n.Kind = api.EVar }),
		change(func(n *api.Node) { n.Text = "" }),
		change(func(n *api.Node) { n.Mod = "a" }),
		change(func(n *api.Node) { n.Int = -3 }),
		change(func(n *api.Node) { n.Kids = []int{0} }),
		change(func(n *api.Node) { n.Kids = []int{1} }),
		change(func(n *api.Node) { n.Kids = []int{3} }),
		change(func(n *api.Node) { n.Kids = []int{0, 3} }),
		change(func(n *api.Node) { n.Kids = []int{3, 0} }),
		change(func(n *api.Node) { n.Kids = []int{0, 3, 3} }),
		change(func(n *api.Node) { n.Kids = []int{13} }),
		change(func(n *api.Node) { n.Kids = []int{-1} }),
		change(func(n *api.Node) { n.Kids = []int{0, 99} }),
		change(func(n *api.Node) { n.Kids = []int{17} }),
		change(func(n *api.Node) { n.Kids = []int{16} }),
	}
	group := []int{0, 0, 0, 1, 2, 3, 4, 5, 5, 6, 7, 8, 9, -1, -2, -3, -4, -5}
	for i := range l {
		for k := range l {
			want := group[i] == group[k] && group[i] >= 0
			if parse.Same(l, i, slices.Clone(l), k) != want || parse.Same(l, i, l, k) != want {
				t.Errorf("Same of %+v and %+v is not %v", l[i], l[k], want)
			}
		}
	}
	for _, i := range []int{-1, len(l), math.MinInt, math.MaxInt} {
		if parse.Same(l, i, l, 0) || parse.Same(l, 0, l, i) || parse.Same(l, i, l, i) {
			t.Errorf("Same of %d, which is no node", i)
		}
	}
	if parse.Same(nil, 0, nil, 0) || parse.Same(nil, 0, l, 0) || parse.Same(l, 0, nil, 0) {
		t.Error("Same of no nodes")
	}
}

// doubled is nodes each of which has the one ahead of it twice: 2 to the n ways go down.
func doubled(n int) []api.Node {
	l := []api.Node{kids()}
	for i := range n {
		l = append(l, kids(i, i))
	}
	return l
}

// P11.4, P11.5: nodes that many others share: as many steps as there are nodes, not as there are ways.
func TestSharedNodes(t *testing.T) {
	const n = 20000
	a, b := doubled(n), doubled(n)
	if got := parse.Below(a, n); len(got) != n+1 {
		t.Errorf("Below: %d", len(got))
	}
	if !parse.Same(a, n, b, n) || parse.Same(a, n, b, n-1) || parse.Same(a, n-1, b, n) || !parse.Same(a, n, a, n) {
		t.Error("Same of shared nodes")
	}
	b[0].Text = "a"
	if parse.Same(a, n, b, n) || parse.Same(b, n, a, n) {
		t.Error("Same of shared nodes that end otherwise")
	}
	// Of c each node is there twice, so that nothing is shared as in a, but all is the same.
	c := []api.Node{kids(), kids()}
	for i := range n {
		c = append(c, kids(2*i, 2*i+1), kids(2*i+1, 2*i))
	}
	if !parse.Same(a, n, c, 2*n) || !parse.Same(c, 2*n+1, a, n) || !parse.Same(c, 2*n, c, 2*n+1) {
		t.Error("Same of nodes that are shared otherwise")
	}
	c[1].Kids = []int{1}
	if parse.Same(a, n, c, 2*n) || parse.Same(c, 2*n, c, 2*n) || !parse.Same(c, 0, a, 0) {
		t.Error("Same of nodes with one that holds itself below them")
	}
	wide := []api.Node{kids(), {Kind: api.ETuple, Kids: make([]int, 300000)}}
	if !parse.Same(wide, 1, slices.Clone(wide), 1) || len(parse.Below(wide, 1)) != 2 {
		t.Error("a node with many Kids")
	}
}

// Rule 4: what Below answers is new.
func TestBelowIsNew(t *testing.T) {
	l := doubled(5)
	roots := []int{5, 2}
	first := parse.Below(l, roots...)
	for i := range first[:cap(first)] {
		first[:cap(first)][i] = -1
	}
	if got := parse.Below(l, roots...); !slices.Equal(got, []int{0, 1, 2, 3, 4, 5}) || !slices.Equal(roots, []int{5, 2}) {
		t.Errorf("again: %v of %v", got, roots)
	}
}
