package parse

import "heddle/api"

func isNode(l []api.Node, i int) bool { return 0 <= i && i < len(l) }

func isLower(kid, i int) bool { return 0 <= kid && kid < i }

// Below are the nodes below some, with them, rising.
func Below(l []api.Node, roots ...int) []int {
	met := make([]bool, len(l))
	for _, root := range roots {
		if isNode(l, root) {
			met[root] = true
		}
	}
	// Kids that count are lower, so that from the highest down each node is met ahead of its turn, if at all.
	for i := len(l) - 1; i >= 0; i-- {
		if met[i] {
			meet(met, l[i].Kids, i)
		}
	}
	var below []int
	for i, reached := range met {
		if reached {
			below = append(below, i)
		}
	}
	return below
}

// meet marks the Kids of a node that are lower.
func meet(met []bool, kids []int, i int) {
	for _, kid := range kids {
		if isLower(kid, i) {
			met[kid] = true
		}
	}
}

// limit refuses a tree of too many nodes, or too high a one. Its nodes rise, so the root is the last.
func limit(l []api.Node, tree []int) error {
	if len(tree) > api.MaxTree {
		return refuse(0, api.ErrMany)
	}
	heights := make([]int, len(l))
	for _, i := range tree {
		highest := 0
		for _, kid := range l[i].Kids {
			highest = max(highest, heights[kid])
		}
		heights[i] = highest + 1
	}
	if heights[tree[len(tree)-1]] > api.MaxNest {
		return refuse(0, api.ErrNest)
	}
	return nil
}

// Same tells whether two trees are the same but for places.
func Same(a []api.Node, i int, b []api.Node, k int) bool {
	if !isNode(a, i) || !isNode(b, k) {
		return false
	}
	sets := newSets(len(a) + len(b))
	for pairs := [][2]int{{i, k}}; len(pairs) > 0; {
		i, k := pairs[len(pairs)-1][0], pairs[len(pairs)-1][1]
		pairs = pairs[:len(pairs)-1]
		// Nodes that must be the same already, be it by way of others, are not held against each other again: else nodes that share Kids would take too many steps.
		if !sets.join(i, len(a)+k) {
			continue
		}
		if !looksSame(a[i], b[k]) {
			return false
		}
		for n, kid := range a[i].Kids {
			other := b[k].Kids[n]
			if !isLower(kid, i) || !isLower(other, k) {
				return false
			}
			pairs = append(pairs, [2]int{kid, other})
		}
	}
	return true
}

// looksSame: are they, but for what their Kids are?
func looksSame(x, y api.Node) bool {
	return x.Kind == y.Kind && x.Text == y.Text && x.Mod == y.Mod && x.Int == y.Int && len(x.Kids) == len(y.Kids)
}

// sets are sets of numbers: at each stands the next one on the way to its set's own number, where it stands itself.
type sets []int

func newSets(n int) sets {
	s := make(sets, n)
	for i := range s {
		s[i] = i
	}
	return s
}

// find tells a set's own number, and shortens the way there.
func (s sets) find(i int) int {
	for s[i] != i {
		s[i] = s[s[i]]
		i = s[i]
	}
	return i
}

// join makes one set of two; not, where they are one.
func (s sets) join(i, k int) bool {
	i, k = s.find(i), s.find(k)
	s[i] = k
	return i != k
}
