package check_test

import (
	"math/rand"
	"slices"

	"heddle/api"
)

// tree is a node with those below it.
type tree struct {
	api.Node
	kids []*tree
}

// of is a tree of a kind.
func of(kind api.NodeKind, text string, kids ...*tree) *tree {
	return &tree{api.Node{Kind: kind, Text: text}, kids}
}

// treeOf is the tree below a node of a list.
func treeOf(l []api.Node, i int) *tree {
	t := &tree{Node: l[i]}
	t.Kids = nil
	for _, kid := range l[i].Kids {
		t.kids = append(t.kids, treeOf(l, kid))
	}
	return t
}

// every goes over a tree, each node ahead of those below it.
func every(t *tree, do func(*tree)) {
	do(t)
	for _, kid := range t.kids {
		every(kid, do)
	}
}

// numberPlaces gives each node of a tree a place of its own, so that a place tells a node.
func numberPlaces(t *tree, r *rand.Rand) {
	at := 0
	every(t, func(n *tree) {
		at += 1 + r.Intn(5)
		n.At = at
	})
}

// layout puts nodes into a list, the Kids of each ahead of it.
type layout struct {
	l   []api.Node
	r   *rand.Rand // nil: Kids stand as they are
	odd []api.Node // what may stand between them
}

func (w *layout) lay(t *tree) int {
	kids := make([]int, len(t.kids))
	for _, k := range w.order(len(kids)) {
		kids[k] = w.lay(t.kids[k])
	}
	if len(w.odd) > 0 && w.r.Intn(4) == 0 {
		w.l = append(w.l, w.odd[w.r.Intn(len(w.odd))])
	}
	n := t.Node
	n.Kids = kids
	w.l = append(w.l, n)
	return len(w.l) - 1
}

func (w *layout) order(n int) []int {
	if w.r != nil {
		return w.r.Perm(n)
	}
	order := make([]int, n)
	for k := range order {
		order[k] = k
	}
	return order
}

// laid is a tree as a list; its root is the last.
func laid(t *tree) ([]api.Node, int) {
	w := layout{}
	root := w.lay(t)
	return w.l, root
}

// shuffled is a tree as a list whose Kids stand in any order, among nodes that are not reached.
func shuffled(t *tree, r *rand.Rand) ([]api.Node, int) {
	w := layout{r: r, odd: []api.Node{
		{}, {Kind: -1, At: -1}, {Kind: api.EVar, Text: "_"}, {Kind: api.EVar, Text: "Odd"}, {Kind: api.ECall, Text: "no", Kids: []int{0, 0}},
		{Kind: api.NFunction, Text: "f", Kids: []int{0, 99, -1}}, {Kind: api.NModule, Text: "erlang"}, {Kind: api.NProgram},
	}}
	root := w.lay(t)
	w.l = append(w.l, api.Node{Kind: api.NProgram, Kids: []int{root, root}})
	return w.l, root
}

// copied is nodes that share nothing with those of l.
func copied(l []api.Node) []api.Node {
	l = slices.Clone(l)
	for i := range l {
		l[i].Kids = slices.Clone(l[i].Kids)
	}
	return l
}

// sameNode: all fields of two nodes are the same.
func sameNode(a, b api.Node) bool {
	return a.Kind == b.Kind && a.Text == b.Text && a.Mod == b.Mod && a.Int == b.Int && a.At == b.At && slices.Equal(a.Kids, b.Kids)
}
