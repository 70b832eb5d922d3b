package check_test

import (
	"fmt"
	"math"
	"math/rand"
	"slices"
	"strings"
	"testing"

	"heddle/api"
	"heddle/check"
	"heddle/sample"
)

// vars holds which names Vars tells of a node.
func vars(t *testing.T, l []api.Node, i int, want ...string) {
	t.Helper()
	if got, err := check.Vars(l, i); err != nil || !slices.Equal(got, want) {
		t.Errorf("node %d of %+v: %q, %v, not %q", i, l[max(0, i-5):i+1], got, err, want)
	}
}

// reached are the numbers of a node and of all below it by Kids that are lower, asked node by node.
func reached(l []api.Node, i int) map[int]bool {
	all := map[int]bool{i: true}
	for more := true; more; {
		before := len(all)
		for k, n := range l {
			for _, kid := range n.Kids {
				if all[k] && kid >= 0 && kid < k {
					all[kid] = true
				}
			}
		}
		more = len(all) > before
	}
	return all
}

// namesBelow are the names below a node, by the numbers of the nodes at which they stand first.
func namesBelow(l []api.Node, i int) []string {
	all := reached(l, i)
	var names []string
	for k, n := range l {
		if all[k] && n.Kind == api.EVar && n.Text != "_" && !slices.Contains(names, n.Text) {
			names = append(names, n.Text)
		}
	}
	return names
}

// P12.2: names below nodes of every kind, each once, in the order of the nodes' numbers.
func TestVars(t *testing.T) {
	l, root := nodes(t, allKinds)
	vars(t, l, root, "X", "A")
	l, root = nodes(t, "-module(m). f(_, {B, A}) when C -> D = E, A, case F of [G | B] -> _ end, try H catch _:I -> J end, receive K when L -> M after N -> O end, P ! Q, f(R), k:g(S), -T, U + V, W andalso X, Y orelse Z, begin _A end.")
	want := strings.Split("B A C D E F G H I J K L M N O P Q R S T U V W X Y Z _A", " ")
	vars(t, l, root, want...)
	kinds := map[api.NodeKind]bool{}
	for i, n := range l {
		vars(t, l, i, namesBelow(l, i)...)
		kinds[n.Kind] = true
	}
	l, _ = nodes(t, allKinds)
	for i, n := range l {
		vars(t, l, i, namesBelow(l, i)...)
		kinds[n.Kind] = true
	}
	if len(kinds) != 27 {
		t.Errorf("%d kinds", len(kinds))
	}
}

// P12.2: any nodes: that are no trees, with any kinds and texts; Kids that are not lower are left out, nodes that are reached twice count once.
func TestVarsHandMade(t *testing.T) {
	l := []api.Node{
		{Kind: api.EVar, Text: "X"}, {Kind: api.EVar, Text: "_"}, {Kind: api.EVar, Text: "Y", Kids: []int{0}}, {Kind: 99, Text: "Z", Kids: []int{2, 2, 3, 4, -1, 100, math.MaxInt, math.MinInt}}, {Kind: api.EVar, Text: "X", Kids: []int{3, 1}},
		{Kind: api.EAtom, Text: "W", Kids: []int{6, 0, 0}}, {Kind: api.EVar, Text: "V"}, {Kind: api.EVar, Text: "\xff not one"}, {Kind: api.EVar, Text: "__", Mod: "_", Int: 7}, {Kind: api.NProgram, Kids: []int{8, 7, 6, 0, 4}},
	}
	vars(t, l, 0, "X")
	vars(t, l, 1)
	vars(t, l, 2, "X", "Y")
	vars(t, l, 3, "X", "Y")
	vars(t, l, 4, "X", "Y")
	vars(t, l, 5, "X")
	vars(t, l, 6, "V")
	vars(t, l, 7, "\xff not one")
	vars(t, l, 8, "__")
	vars(t, l, 9, "X", "Y", "V", "\xff not one", "__")

	// The order is that of the numbers, not that of the Kids.
	l = []api.Node{{Kind: api.EVar, Text: "B"}, {Kind: api.EVar, Text: "A"}, {Kind: api.EVar, Text: "B"}, {Kind: api.ETuple, Kids: []int{2, 1, 0}}, {Kind: api.ETuple, Kids: []int{2, 1}}}
	vars(t, l, 3, "B", "A")
	vars(t, l, 4, "A", "B")

	doubled := []api.Node{{Kind: api.EVar, Text: "X"}}
	for i := range 5000 {
		doubled = append(doubled, api.Node{Kind: api.ETuple, Kids: []int{i, i}})
	}
	vars(t, doubled, 5000, "X")

	r := rand.New(rand.NewSource(12))
	for range 3000 {
		l := make([]api.Node, 1+r.Intn(12))
		for i := range l {
			l[i] = api.Node{Kind: api.NodeKind(r.Intn(4) + 2), Text: []string{"X", "Y", "Z", "_", ""}[r.Intn(5)]}
			for range r.Intn(4) {
				l[i].Kids = append(l[i].Kids, r.Intn(len(l)+2)-1)
			}
		}
		for i := range l {
			vars(t, l, i, namesBelow(l, i)...)
		}
	}
}

// P12.2: numbers that are no nodes'.
func TestVarsNoNode(t *testing.T) {
	l, _ := nodes(t, allKinds)
	for _, nodes := range [][]api.Node{nil, {}, l, l[:1]} {
		for _, i := range []int{-1, len(nodes), len(nodes) + 1, math.MaxInt, math.MinInt} {
			if got, err := check.Vars(nodes, i); len(got) != 0 || !sample.IsFault(err, faulty(0, api.ErrRange)) {
				t.Errorf("node %d of %d: %q, %v", i, len(nodes), got, err)
			}
		}
	}
}

// Rules 4 and 7: Vars changes nothing and keeps nothing.
func TestVarsKeepsNothing(t *testing.T) {
	l, root := nodes(t, head+"f(A, B, C) -> {A, D = 1}.")
	before := copied(l)
	first, err := check.Vars(l, root)
	if err != nil || !slices.EqualFunc(l, before, sameNode) {
		t.Fatalf("nodes are changed, or %v", err)
	}
	for i := range l {
		l[i] = api.Node{Kind: api.EVar, Text: "Gone"}
	}
	if fmt.Sprint(first) != "[A B C D]" {
		t.Error(first)
	}
	second, _ := check.Vars(before, root)
	all := first[:cap(first)]
	for i := range all {
		all[i] = "Gone"
	}
	third, _ := check.Vars(before, root)
	if fmt.Sprint(second, third) != "[A B C D] [A B C D]" {
		t.Error(second, third)
	}
}
